/- Several texts in one, each with its own sentence and conditions. -/
import Derived.Test.YteahcbeohopdlaaGreatDoorGRqc23
import Derived.Test.YteahcbeohopdlaaGreatDoorGRqc8
import Derived.Test.YteahcbeohopdlaaGreatDoorGRqc10
import Derived.Test.YteahcbeohopdlaaGreatDoorGRqc17
import Derived.Test.YteahcbeohopdlaaGreatDoorGRqc15
section
/- The document's own numbers: Div. Conditions: at most 100000 fours of digits, a divisor above 0. -/
open Go.RowKit
set_option maxRecDepth 100000
namespace Go.Proofs.YteahcbeohopdlaaGreatDoor
def RDivR (w : World) (q r : Nat) (e : Ending) (w' : World) : Prop :=
  ∃ A c A' c', e = .returned (.tuple #[.slice A (dq q) c, .slice A' (dq r) c']) ∧ Hid (RN w' w'.heap.size A c q) ∧ Hid (RN w' w'.heap.size A' c' r) ∧ Hid (Below w.heap.size w w')
theorem rn_nil (w : World) (B : Nat) (A : Option Addr) (c : Nat) : RN w B A c 0 := ⟨by rw [dq_zero]; exact Nat.zero_le _, by rw [digs_zero]; exact Rd.nil⟩
set_option maxHeartbeats 2000000 in
theorem rDiv_short {A A' : Option Addr} {m n c c' : Nat} {w : World} (h : RN w w.heap.size A c m) (hl : dq m ≤ 100000) (hl' : dq n ≤ 100000) (hs : dq m + 1 < dq n) :
    Calls Tryz.prog 122 #[.slice A (dq m) c, .slice A' (dq n) c'] w (RDivR w (m / n) (m % n)) := by
  have hmn : m < n := digs_len_lt (b := D4) (by decide) (show dq m < dq n by omega)
  have HX := hide h
  rw [Nat.div_eq_of_lt hmn, Nat.mod_eq_of_lt hmn]
  obtain ⟨k, hk⟩ : ∃ k : Int, (dq m : Int) - (dq n : Int) + 1 = k := ⟨_, rfl⟩
  have h0 : k < 0 := by omega
  clear h hmn
  go_enter Tryz.func122, Tryz.ntmps122
  go_wp2_with (first | (at_make; go_must (refine wpList_ints rfl _ _ rfl (dq m) _ rfl rfl (by omega) (by omega) ?_; intro g w1 hg hb1 hbel)))
  refine bodyPost_ret (v := .tuple #[.slice none 0 0, .slice A (dq m) c]) (by simp [results, Tryz.results122, go_sem]) rfl ?_
  exact ⟨none, 0, A, c, by rw [dq_zero], rn_nil _ _ _ _, (HX.out.below hbel).more hbel.size, hbel⟩
theorem slice_from (t e : TypeId) (i : TypeInfo) (ht : Tryz.prog.underlying t = some (.slice e)) (hi : Tryz.prog.info? e = some i) (hs : i.size = 1) (A : Option Addr) {n c k : Nat} (hk : k ≤ n) (W : World) :
    (Instr.sliceAt t (.slice A n c) (some (.int .i64 (k : Int))) none none).run Tryz.prog W = .ok (.slice (if c = k then A else A.map (·.add k)) (n - k) (c - k)) W := by
  have he : Tryz.prog.elem t = e := by simp [Program.elem, ht]
  have h2 : Tryz.prog.underlying t = some (.slice (Tryz.prog.elem t)) := by rw [he]; exact ht
  rw [run_sliceAt_slice W t _ _ _ _ h2, run_slice_l W t A n c h2 .i64 (k : Int) (by omega) (by omega), he]
  simp [sizeOf, typeInfo, hi, hs, sliced, Result.andThen]
/-- The row that append leaves, read as a list. -/
theorem row_own {w : World} {base n : Nat} {t : TypeId} {v : Value} {xs : List Value} {f : Nat → Value} {dd : List Nat} (h : w.ownsRow base t 1 v n xs) (hn : n = dd.length) (hx : xs = dd.map f) :
    ∃ A c, v = .slice A n c ∧ n ≤ c ∧ Rd f w w.heap.size A dd ∧ (∀ ad, A = some ad → v.ownBlock = some ad.block) := by
  subst hn; subst hx
  obtain ⟨A, c, rfl, h1, h2⟩ := row_rd h
  exact ⟨A, c, rfl, h1, h2, fun ad e => by subst e; rfl⟩
theorem RN.set {w : World} {B : Nat} {A : Option Addr} {c m g i : Nat} (h : RN w B A c m) (hg : ∀ ad, A = some ad → ad.block ≠ g) (u : Value) : RN (w.setCell ⟨g, i, none⟩ u) B A c m := by
  refine ⟨h.1, fun hn => ?_⟩
  obtain ⟨ad, e, hb, hx⟩ := h.2 hn
  refine ⟨ad, e, hb, fun j x hj => ?_⟩
  rw [World.cell?_setCell_other w ⟨g, i, none⟩ _ u (by intro e2; exact hg ad e (by rw [← block_add ad j, ← e2]))]
  exact hx j x hj
theorem dq_mul_le {n s : Nat} (hl : dq n ≤ 100000) (hs : s ≤ 9999) : dq (n * s) ≤ 1000000 := by
  have h1 : n < D4 ^ dq n := lt_pow_digs (b := D4) (by decide) n
  have h2 : n * s < D4 ^ (dq n + 1) := by
    rw [Nat.pow_succ]
    exact Nat.lt_of_le_of_lt (Nat.mul_le_mul_left n (show s ≤ D4 by rw [D4_eq]; omega)) (Nat.mul_lt_mul_of_pos_right h1 (by decide))
  have := dq_le h2
  omega
theorem dq_step {n r x : Nat} (hl : dq n ≤ 99999) (hr : r < n) (hx : x ≤ 9999) : dq (x + D4 * r) ≤ 100000 := by
  have h1 : n < D4 ^ dq n := lt_pow_digs (b := D4) (by decide) n
  have h2 : x + D4 * r < D4 ^ (dq n + 1) := by
    rw [Nat.pow_succ]
    generalize D4 ^ dq n = P at h1
    have h3 : (r + 1) * 10000 ≤ P * 10000 := Nat.mul_le_mul_right _ (by omega)
    rw [D4_eq]
    omega
  have := dq_le h2
  omega
set_option maxHeartbeats 8000000 in
theorem rDiv_long {A A' : Option Addr} {m n c c' top : Nat} {w : World} (h : RN w w.heap.size A c m) (h' : RN w w.heap.size A' c' n) (hl : dq m ≤ 99999) (hl' : dq n ≤ 99999) (hn : 0 < n) (ht : top + dq n = dq m + 1) :
    Calls Tryz.prog 122 #[.slice A (dq m) c, .slice A' (dq n) c'] w (RDivR w (m / n) (m % n)) := by
  have hn1 : 1 ≤ dq n := by
    rcases Nat.eq_zero_or_pos (dq n) with h0 | h0
    · have := (digs_len_pos (b := D4) (n := n) (by decide)).1 h0; omega
    · exact h0
  have HX := hide h
  have HY := hide h'
  have e1 : (dq m : Int) - (dq n : Int) + 1 = (top : Int) := by omega
  have hc := h.1
  obtain ⟨i0, hi0, hz0, hz1, hz2⟩ := info_parts Tryz.infoInt
  have I0 := hide hi0
  have Z0 := hide hz0
  have Z1 := hide hz1
  have Z2 := hide hz2
  clear hi0 hz0 hz1 hz2 h h'
  have htm : top ≤ dq m := by omega
  have ht1 : ¬ dq m < top := by omega
  have ht2 : ¬ (top : Int) < 0 := by omega
  have HS := hide (slice_from 41 3 i0 Tryz.underlying41 I0.out Z1.out A (c := c) htm)
  have HD : Hid (Rd I64 w w.heap.size (if c = top then A else A.map (·.add top)) ((digs D4 m).drop top)) := HX.out.2.cut hc
  obtain ⟨D, hD⟩ : ∃ D, D = (if c = top then A else A.map (·.add top)) := ⟨_, rfl⟩
  rw [← hD] at HS HD
  obtain ⟨r0, hr0⟩ : ∃ r, r = val D4 ((digs D4 m).drop top) := ⟨_, rfl⟩
  have HR0 : Hid (r0 < n) := by
    have h1 := val_drop_lt (m := m) htm
    rw [← hr0] at h1
    have h2 := pow_le_of_digs (b := D4) (n := n) (by decide) hn
    rw [show (digs D4 n).length - 1 = dq m - top by unfold dq at *; omega] at h2
    exact Nat.lt_of_lt_of_le h1 h2
  have GD : Hid (Good4 ((digs D4 m).drop top)) := fun x hx => good4_digs m x (List.mem_of_mem_drop hx)
  have HDL : Hid (dq m - top = ((digs D4 m).drop top).length) := by unfold Hid; rw [List.length_drop]; rfl
  have HTL : Hid (∀ j, j ≤ dq m → ((digs D4 m).drop j).length = dq m - j) := fun j _ => by rw [List.length_drop]; rfl
  clear hD
  have HRE := hide hr0.symm
  clear hr0
  have hS := HS.out
  go_enter Tryz.func122, Tryz.ntmps122
  go_wp2_with (first | (at_make; go_must (refine wpList_ints rfl _ _ rfl (dq m) _ rfl rfl (by omega) (by omega) ?_; intro g w1 hg hb1 hbel)) | (at_builtin; go_must (refine wpList_app (f := I64) (fun _ => rfl) rfl (.tmp 31) (.tmp 34) 41 rfl w.heap.size 3 i0 (.int .i64 0) 8 Tryz.underlying41 I0.out Z0.out Z1.out Z2.out rfl (v := .slice (some ⟨w1.heap.size, 0, none⟩) 0 0) (n := 0) (xs := []) rfl (World.ownsRow_lit w1 #[] 0 hbel.size (by simp only [maxLen]; omega) rfl) (B := w.heap.size) (A := D) (m := dq m - top) (c := c - top) (ws := (digs D4 m).drop top) rfl HDL.out ((HD.out.below hbel).below ((Below.refl _ _).alloc hbel.size _)) (by simp only [maxLen]; omega) (by omega) (by have := hbel.size; simp; omega) ?_; intro v2 w2 hown2 hgrow hat; obtain ⟨A2, c2, rfl, hc2, hr2, hab⟩ := row_own (f := I64) (dd := (digs D4 m).drop top) hown2 (by rw [Nat.zero_add]; exact HDL.out) (by simp); rw [Nat.zero_add] at hc2; simp only [Nat.zero_add])) | (go_at_call 146; (with_reducible refine (rtrim_post HDL.out HRE.out hr2 GD.out (by omega) hc2).mono ?_); rintro e w3 ⟨rfl, rfl⟩) | fail)
  have hgw : w.heap.size ≤ g := by rw [hg.out]; exact Nat.le_refl _
  have hgb : g < w1.heap.size := hb1.out.lt
  have HB3 : Hid (Below w.heap.size w w2) := (hbel.alloc hbel.size _).grown hgrow (by have := hbel.size; simp; omega) (fun k hk => by have e : some w1.heap.size = some k := hk; injection e with e; have := hbel.size; omega)
  have HQ3 : Hid (Blk I64 3 w2 g (List.replicate (dq m) 0)) := (hb1.out.alloc _).grown hgrow (by intro e; have e2 : some g = some w1.heap.size := e; injection e2 with e2; omega)
  have HR3 : Hid (RN w2 w2.heap.size A2 c2 r0) := rn_of HDL.out HRE.out hr2 GD.out hc2
  have HT3 : Hid (val D4 ((digs D4 m).drop top) = n * val D4 (List.replicate (dq m - top) 0) + r0) := by unfold Hid; rw [val_zeros, HRE.out, Nat.mul_zero, Nat.zero_add]
  clear hg hgb hgrow hat hab hr2 hc2 hown2 hbel hb1 HD HRE HDL GD hS HS
  go_loopw [8, 9] (fun rv iv wr => ∃ (j r : Nat) (R : Option Addr) (d : Nat) (hi : List Nat), j ≤ top ∧ iv = .int .i64 ((j : Int) - 1) ∧ rv = .slice R (dq r) d ∧ Hid (RN wr wr.heap.size R d r) ∧ Hid (r < n) ∧ Hid (hi.length = dq m - j) ∧ Hid (Good4 hi) ∧
      Hid (val D4 ((digs D4 m).drop j) = n * val D4 hi + r) ∧ Hid (Blk I64 3 wr g (List.replicate j 0 ++ hi)) ∧ Hid (Below w.heap.size w wr))
    (fun _ iv _ => (intOf iv + 1).toNat)
  case atStart =>
    refine ⟨top, r0, A2, c2, List.replicate (dq m - top) 0, Nat.le_refl _, rfl, rfl, HR3, HR0, by simp [Hid], by intro x hx; rw [(List.mem_replicate.1 hx).2]; decide, HT3, ?_, HB3⟩
    have h1 := HQ3.out
    rw [show dq m = top + (dq m - top) by omega, ← List.replicate_append_replicate] at h1
    exact h1
  case round =>
    obtain ⟨j, r, R, d, hi, hj, rfl, rfl, hr, hrn, hhl, hhg, hval, hblk, hbw⟩ := hrel
    by_cases h0 : j = 0
    · subst h0
      have HV : Hid (m / n = val D4 hi ∧ m % n = r) := by
        have h1 := hval.out
        rw [List.drop_zero, val_digs4] at h1
        exact rdiv_end h1 hrn.out
      have HLN : Hid (dq m = (List.replicate 0 0 ++ hi).length) := by unfold Hid; simp [hhl.out]
      have HVV : Hid (val D4 (List.replicate 0 0 ++ hi) = val D4 hi) := by simp [Hid]
      have HGG : Hid (Good4 (List.replicate 0 0 ++ hi)) := by simpa [Hid] using hhg.out
      have HRD := hide (hblk.out.rd0 hblk.out.lt)
      go_wp2_with (first | (go_at_call 146; (with_reducible refine (rtrim_post HLN.out HVV.out HRD.out HGG.out (by omega) (Nat.le_refl _)).mono ?_); rintro e w4 ⟨rfl, rfl⟩) | fail)
      refine bodyPost_ret (v := .tuple #[.slice (some ⟨g, 0, none⟩) (dq (val D4 hi)) (dq m), .slice R (dq r) d]) (by simp [results, Tryz.results122, go_sem]) rfl ?_
      show RDivR w (m / n) (m % n) _ _
      rw [HV.out.1, HV.out.2]
      exact ⟨_, _, _, _, rfl, rn_of HLN.out HVV.out HRD.out HGG.out (Nat.le_refl _), hr, hbw⟩
    · obtain ⟨i, rfl⟩ : ∃ i, j = i + 1 := ⟨j - 1, by omega⟩
      have hi' : i < (digs D4 m).length := by have : (digs D4 m).length = dq m := rfl; omega
      obtain ⟨ad, rfl, hab, hcell⟩ := ((HX.out.below hbw.out).2).at_ hi'
      obtain ⟨x, hx⟩ : ∃ x, x = (digs D4 m)[i] := ⟨_, rfl⟩
      rw [← hx] at hcell
      unfold I64 at hcell
      have hx9 : x ≤ 9999 := by rw [hx]; have h4 : D4 = 10000 := rfl; have := good4_digs m _ (List.getElem_mem hi'); omega
      have HDR : Hid ((digs D4 m).drop i = x :: (digs D4 m).drop (i + 1)) := by unfold Hid; rw [List.drop_eq_getElem_cons hi', ← hx]
      obtain ⟨r', hr'⟩ : ∃ r', r' = x + D4 * r := ⟨_, rfl⟩
      obtain ⟨t, htt⟩ : ∃ t, t = r' / n := ⟨_, rfl⟩
      have HDG := hide (rdiv_digit hrn.out hx9)
      have hq' : dq r' ≤ 100000 := by rw [hr']; exact dq_step (by omega) hrn.out hx9
      have HV1 : Hid (val D4 (x :: digs D4 r) = r') := by unfold Hid; rw [hr']; show x + D4 * val D4 (digs D4 r) = _; rw [val_digs4]
      rw [← hr', ← htt] at HDG
      have ht9 : t ≤ 9999 := HDG.out.1
      have HG1 : Hid (Good4 (x :: digs D4 r)) := by
        intro z hz
        rcases List.mem_cons.1 hz with rfl | hz
        · rw [D4_eq]; omega
        · exact good4_digs r z hz
      have HL1 : Hid (1 + dq r = (x :: digs D4 r).length) := by unfold Hid; rw [List.length_cons, Nat.add_comm]; rfl
      have hqr : dq r ≤ 100000 := Nat.le_trans (digs_len_mono (b := D4) (by decide) (Nat.le_of_lt hrn.out)) (by have : (digs D4 n).length = dq n := rfl; omega)
      have hii : i < dq m := hi'
      have HBIS := hide (fun s => bis_le (n := n) (s := s) (t := r') hn)
      rw [← htt] at HBIS
      have HST := hide (fun r2 (h : n * t + r2 = r') => rdiv_step hval.out (show n * t + r2 = x + D4 * r by rw [h, hr']))
      have HHR := hide hr'
      clear hx hi' h0 hr' htt
      go_wp2_with (first | (at_builtin; go_must (refine wpList_app (f := I64) (fun _ => rfl) rfl (.tmp 48) (.tmp 49) 41 rfl w.heap.size 3 i0 (.int .i64 0) 8 Tryz.underlying41 I0.out Z0.out Z1.out Z2.out rfl (v := .slice (some ⟨wr.heap.size, 0, none⟩) 1 1) (n := 1) (xs := [.int .i64 (x : Int)]) rfl (World.ownsRow_lit wr #[.int .i64 (x : Int)] 1 hbw.out.size (by simp only [maxLen]; omega) rfl) (B := wr.heap.size) (A := R) (m := dq r) (c := d) (ws := digs D4 r) rfl rfl (hr.out.2.below ((Below.refl _ _).alloc (Nat.le_refl _) _)) (by simp only [maxLen]; omega) (by omega) (by have := hbw.out.size; simp; omega) ?_; intro v4 w4 hown4 hgrow hat; obtain ⟨A4, c4, rfl, hc4, hr4, hab4⟩ := row_own (f := I64) (dd := x :: digs D4 r) hown4 HL1.out (by simp [I64]))) | (go_at_call 146; (with_reducible refine (rtrim_post HL1.out HV1.out hr4 HG1.out (by omega) hc4).mono ?_); rintro e w5 ⟨rfl, rfl⟩) | fail)
      have hgr : g < wr.heap.size := hblk.out.lt
      have HB4 : Hid (Below w.heap.size w w4) := (hbw.out.alloc hbw.out.size _).grown hgrow (by have := hbw.out.size; simp; omega) (fun k hk => by have e : some wr.heap.size = some k := hk; injection e with e; have := hbw.out.size; omega)
      have HQ4 : Hid (Blk I64 3 w4 g (List.replicate (i + 1) 0 ++ hi)) := (hblk.out.alloc _).grown hgrow (by intro e; have e2 : some g = some wr.heap.size := e; injection e2 with e2; omega)
      have HR4 : Hid (RN w4 w4.heap.size A4 c4 r') := rn_of HL1.out HV1.out hr4 HG1.out hc4
      have HN4 : Hid (∀ ad, A4 = some ad → ad.block ≠ g) := fun ad4 e4 => by
        have h1 := hab4 ad4 e4
        rcases hat with h2 | h2
        · rw [h1] at h2
          have e : some ad4.block = some wr.heap.size := h2
          injection e with e; omega
        · rw [h1] at h2
          injection h2 with h2
          simp at h2; omega
      clear hgr hgrow hat hab4 hr4 hc4 hown4 hcell
      go_loopw [10, 11] (fun lo hv wz => ∃ a b : Nat, lo = .int .i64 (a : Int) ∧ hv = .int .i64 (b : Int) ∧ a ≤ t ∧ t ≤ b ∧ b ≤ 9999 ∧ Hid (Below w4.heap.size w4 wz)) (fun lo hv _ => (intOf hv).toNat - (intOf lo).toNat)
      case atStart => exact ⟨0, 9999, rfl, rfl, Nat.zero_le _, ht9, Nat.le_refl _, Below.refl _ _⟩
      case round =>
        obtain ⟨a, b, rfl, rfl, ha, hb, hb9, hbz⟩ := hrel
        by_cases hab2 : a < b
        · obtain ⟨s, hs⟩ : ∃ s, s = (a + b + 1) / 2 := ⟨_, rfl⟩
          have hs1 : a < s := by omega
          have hs2 : s ≤ b := by omega
          have e2 : ((a : Int) + (b : Int) + 1) / 2 = (s : Int) := by omega
          have e3 : ((a : Int) + (b : Int) + 1).tdiv 2 = (s : Int) := by rw [Int.tdiv_eq_ediv_of_nonneg (by omega)]; exact e2
          have HS1 : Hid (s - 1 < s ∧ (s : Int) - 1 = ((s - 1 : Nat) : Int)) := by unfold Hid; omega
          clear hs
          have hs9 : s ≤ 9999 := by omega
          have hqm := dq_mul_le (n := n) (s := s) (by omega) hs9
          have CS : Hid (Calls Tryz.prog 77 #[.int .u64 (s : Int)] wr (RefPost wr s)) := Small_any (by omega)
          have HYz : Hid (RN wr wr.heap.size A' c' n) := (HY.out.below (HB4.out.trans (hbz.out.mono HB4.out.size))).more (Nat.le_trans HB4.out.size hbz.out.size)
          have CM : Hid (∀ W B d, Hid (RN W W.heap.size B d s) → Hid (Below wr.heap.size wr W) → Calls Tryz.prog 101 #[.slice A' (dq n) c', .slice B (dq s) d] W (RefPost W (n * s))) := fun W B d h1 h2 => rMul_any ((HYz.out.below h2.out).more h2.out.size) h1.out (by omega) (Nat.le_trans (dq_u64 (by omega)) (by omega))
          have HR6 : Hid (∀ W, Below wr.heap.size wr W → RN W W.heap.size A4 c4 r') := fun W h2 => (((HR4.out.below hbz.out).more hbz.out.size).below h2).more h2.size
          by_cases hle : n * s ≤ r'
          · have hst : s ≤ t := (HBIS.out s).1 hle
            obtain ⟨v, hv, hv0⟩ : ∃ v, cmpI (n * s) r' = v ∧ v ≤ 0 := by
              rcases Nat.lt_or_eq_of_le hle with h | h
              · exact ⟨_, cmpI_lt h, by decide⟩
              · exact ⟨_, cmpI_eq h, by decide⟩
            have CC : Hid (∀ W B d, Hid (RN W W.heap.size B d (n * s)) → Below wr.heap.size wr W → Calls Tryz.prog 121 #[.slice B (dq (n * s)) d, .slice A4 (dq r') c4] W (fun e w' => e = .returned (.int .i64 v) ∧ ∃ q, w' = W.drewN q)) := fun W B d h1 h2 => by rw [← hv]; exact rCmp_any h1.out (HR6.out W h2) (by omega) (by omega)
            clear hv hle
            go_wp2_with (first | (go_at_call 77; (with_reducible refine CS.out.mono ?_); rintro e w6 ⟨B6, d6, rfl, hn6, hbk6⟩) | (go_at_call 101; (with_reducible refine (CM.out _ _ _ hn6 hbk6).mono ?_); rintro e w7 ⟨B7, d7, rfl, hn7, hbk7⟩) | (go_at_call 121; (with_reducible refine (CC.out _ _ _ hn7 (hbk6.out.trans (hbk7.out.mono hbk6.out.size))).mono ?_); rintro e w8 ⟨rfl, nq, rfl⟩) | fail)
            go_roundw
            case rel => exact ⟨s, b, rfl, rfl, hst, hb, hb9, below_drewN ((hbz.out.trans (hbk6.out.mono hbz.out.size)).trans (hbk7.out.mono (Nat.le_trans hbz.out.size hbk6.out.size))) _⟩
            case measure => simp [intOf]; omega
          · have hst : ¬ s ≤ t := fun h => hle ((HBIS.out s).2 h)
            obtain ⟨v, hv, hv0⟩ : ∃ v, cmpI (n * s) r' = v ∧ ¬ v ≤ 0 := ⟨_, cmpI_gt (by omega), by decide⟩
            have CC : Hid (∀ W B d, Hid (RN W W.heap.size B d (n * s)) → Below wr.heap.size wr W → Calls Tryz.prog 121 #[.slice B (dq (n * s)) d, .slice A4 (dq r') c4] W (fun e w' => e = .returned (.int .i64 v) ∧ ∃ q, w' = W.drewN q)) := fun W B d h1 h2 => by rw [← hv]; exact rCmp_any h1.out (HR6.out W h2) (by omega) (by omega)
            clear hv hle
            go_wp2_with (first | (go_at_call 77; (with_reducible refine CS.out.mono ?_); rintro e w6 ⟨B6, d6, rfl, hn6, hbk6⟩) | (go_at_call 101; (with_reducible refine (CM.out _ _ _ hn6 hbk6).mono ?_); rintro e w7 ⟨B7, d7, rfl, hn7, hbk7⟩) | (go_at_call 121; (with_reducible refine (CC.out _ _ _ hn7 (hbk6.out.trans (hbk7.out.mono hbk6.out.size))).mono ?_); rintro e w8 ⟨rfl, nq, rfl⟩) | fail)
            go_roundw
            case rel => exact ⟨a, s - 1, rfl, by rw [HS1.out.2], ha, by omega, by omega, below_drewN ((hbz.out.trans (hbk6.out.mono hbz.out.size)).trans (hbk7.out.mono (Nat.le_trans hbz.out.size hbk6.out.size))) _⟩
            case measure => have := HS1.out; simp [intOf]; omega
        · obtain rfl : a = t := by omega
          have HBz : Hid (Below w.heap.size w wr) := HB4.out.trans (hbz.out.mono HB4.out.size)
          have HQz : Hid (Blk I64 3 wr g (List.replicate (i + 1) 0 ++ hi)) := hbz.out.block g HQ4.out.lt |>.trans HQ4.out
          have HRz : Hid (RN wr wr.heap.size A4 c4 r') := (HR4.out.below hbz.out).more hbz.out.size
          have hcs : wr.cell? ⟨g, i, none⟩ = some (.int .i64 0) := HQz.out.cell (by rw [List.getElem?_append_left (by simp)]; simp)
          have hfz := HQz.out.frozen i
          have CS : Hid (∀ W, Calls Tryz.prog 77 #[.int .u64 (a : Int)] W (RefPost W a)) := fun W => Small_any (by omega)
          have CM : Hid (∀ W B d, Hid (RN W W.heap.size B d a) → Below w.heap.size w W → Calls Tryz.prog 101 #[.slice A' (dq n) c', .slice B (dq a) d] W (RefPost W (n * a))) := fun W B d h1 h2 => rMul_any ((HY.out.below h2).more h2.size) h1.out (by omega) (Nat.le_trans (dq_u64 (by omega)) (by omega))
          have CB : Hid (∀ W B d, Hid (RN W W.heap.size B d (n * a)) → RN W W.heap.size A4 c4 r' → Calls Tryz.prog 150 #[.slice A4 (dq r') c4, .slice B (dq (n * a)) d] W (RefPost W (r' - n * a))) := fun W B d h1 h2 => rSub_any h2 h1.out (by omega) HDG.out.2.2
          have CR : Hid (∀ u W, Below (wr.setCell ⟨g, i, none⟩ u).heap.size (wr.setCell ⟨g, i, none⟩ u) W → RN W W.heap.size A4 c4 r') := fun u W hb => by
            have h1 := HRz.out.set HN4.out (i := i) u
            have e : (wr.setCell ⟨g, i, none⟩ u).heap.size = wr.heap.size := by simp [World.setCell]
            rw [← e] at h1
            exact (h1.below hb).more hb.size
          go_wp2_with (first | (go_at_call 77; (with_reducible refine (CS.out _).mono ?_); rintro e w6 ⟨B6, d6, rfl, hn6, hbk6⟩) | (go_at_call 101; (with_reducible refine (CM.out _ _ _ hn6 ((HBz.out.setCell hgw _).trans (hbk6.out.mono (HBz.out.setCell hgw _).size))).mono ?_); rintro e w7 ⟨B7, d7, rfl, hn7, hbk7⟩) | (go_at_call 150; (with_reducible refine (CB.out _ _ _ hn7 (CR.out _ _ (hbk6.out.trans (hbk7.out.mono hbk6.out.size)))).mono ?_); rintro e w8 ⟨B8, d8, rfl, hn8, hbk8⟩) | fail)
          have HW8 : Hid (Below (wr.setCell ⟨g, i, none⟩ (.int .i64 (a : Int))).heap.size (wr.setCell ⟨g, i, none⟩ (.int .i64 (a : Int))) w8) := (hbk6.out.trans (hbk7.out.mono hbk6.out.size)).trans (hbk8.out.mono (Nat.le_trans hbk6.out.size hbk7.out.size))
          go_roundw
          case rel =>
            refine ⟨i, r' - n * a, B8, d8, a :: hi, by omega, rfl, rfl, hn8, HDG.out.2.1, ?_, ?_, ?_, ?_, ?_⟩
            · have := hhl.out; unfold Hid; rw [List.length_cons]; omega
            · intro z hz
              rcases List.mem_cons.1 hz with rfl | hz
              · rw [D4_eq]; omega
              · exact hhg.out z hz
            · unfold Hid
              rw [HDR.out]
              exact HST.out _ (by have := HDG.out.2.2; omega)
            · have h1 := HQz.out.set_ i a
              rw [zeros_set] at h1
              exact (HW8.out.block g (by simpa [World.setCell] using HQz.out.lt)).trans h1
            · exact (HBz.out.setCell hgw _).trans (HW8.out.mono (HBz.out.setCell hgw _).size)
          case measure => simp [intOf]

theorem rDiv_any {A A' : Option Addr} {m n c c' : Nat} {w : World} (h : RN w w.heap.size A c m) (h' : RN w w.heap.size A' c' n) (hl : dq m ≤ 99999) (hl' : dq n ≤ 99999) (hn : 0 < n) :
    Calls Tryz.prog 122 #[.slice A (dq m) c, .slice A' (dq n) c'] w (RDivR w (m / n) (m % n)) := by
  by_cases hs : dq m + 1 < dq n
  · exact rDiv_short h (by omega) (by omega) hs
  · exact rDiv_long (top := dq m + 1 - dq n) h h' hl hl' hn (by omega)
end Go.Proofs.YteahcbeohopdlaaGreatDoor
end

section
/- The document's own numbers: Gcd. Conditions: less than 100000 fours of digits. -/
open Go.RowKit
set_option maxRecDepth 100000
namespace Go.Proofs.YteahcbeohopdlaaGreatDoor
theorem dq_pos {n : Nat} : 0 < dq n ↔ 0 < n := by
  have := digs_len_pos (b := D4) (n := n) (by decide)
  have e : (digs D4 n).length = dq n := rfl
  omega
end Go.Proofs.YteahcbeohopdlaaGreatDoor
end

section
/- Parted from Rgc: by function. -/
open Go.RowKit
set_option maxRecDepth 100000
namespace Go.Proofs.YteahcbeohopdlaaGreatDoor
section
set_option maxHeartbeats 2000000 in
theorem rGcd_any {A A' : Option Addr} {m n c c' : Nat} {w : World} (h : RN w w.heap.size A c m) (h' : RN w w.heap.size A' c' n) (hl : dq m ≤ 99999) (hl' : dq n ≤ 99999) :
    Calls Tryz.prog 134 #[.slice A (dq m) c, .slice A' (dq n) c'] w (RefPost w (Nat.gcd m n)) := by
  have HX := hide h
  have HY := hide h'
  have HL := hide hl
  have HL' := hide hl'
  clear h h' hl hl'
  go_enter Tryz.func134, Tryz.ntmps134
  go_wp2_with fail
  go_loopg [0, 1] n (fun K xv yv wr => ∃ (X Y : Nat) (A1 A2 : Option Addr) (c1 c2 : Nat), Hid (Y ≤ K) ∧ xv = .slice A1 (dq X) c1 ∧ yv = .slice A2 (dq Y) c2 ∧ Hid (RN wr wr.heap.size A1 c1 X) ∧ Hid (RN wr wr.heap.size A2 c2 Y) ∧ Hid (Nat.gcd X Y = Nat.gcd m n) ∧ Hid (dq X ≤ 99999 ∧ dq Y ≤ 99999) ∧ Hid (Below w.heap.size w wr))
  case atStart => exact ⟨m, n, _, _, _, _, Nat.le_refl _, rfl, rfl, HX, HY, rfl, ⟨HL.out, HL'.out⟩, Below.refl _ _⟩
  case round =>
    obtain ⟨X, Y, A1, A2, c1, c2, hK, rfl, rfl, hX, hY, hg, hd, hbl⟩ := hrel
    by_cases h0 : Y = 0
    · have hy0 : dq Y = 0 := by rw [h0]; exact dq_zero
      have HG : Hid (Nat.gcd m n = X) := by unfold Hid; rw [← hg.out, h0, Nat.gcd_zero_right]
      clear h0
      go_wp2_with fail
      go_ret
      rw [HG.out]
      exact ⟨A1, c1, rfl, hX, hbl⟩
    · have hy0 : 0 < dq Y := dq_pos.2 (by omega)
      have CD : Hid (Calls Tryz.prog 122 #[.slice A1 (dq X) c1, .slice A2 (dq Y) c2] wr (RDivR wr (X / Y) (X % Y))) := rDiv_any hX.out hY.out hd.out.1 hd.out.2 (by omega)
      have H0 := hide h0
      clear h0
      go_wp2_with (go_at_call 122; (with_reducible refine CD.out.mono ?_); rintro e w4 ⟨A3, c3, A4, c4, rfl, hq, hr, hb4⟩)
      go_roundg (X % Y)
      case measure => exact Nat.lt_of_lt_of_le (Nat.mod_lt _ (Nat.pos_of_ne_zero H0.out)) hK.out
      case rel =>
        refine ⟨Y, X % Y, A2, A4, c2, c4, Nat.le_refl _, rfl, rfl, (hY.out.below hb4.out).more hb4.out.size, hr, ?_, ⟨hd.out.2, Nat.le_trans (digs_len_mono (by decide) (Nat.mod_le _ _)) hd.out.1⟩, hbl.out.trans (hb4.out.mono hbl.out.size)⟩
        unfold Hid; rw [gcd_step]; exact hg.out
end
end Go.Proofs.YteahcbeohopdlaaGreatDoor
end

section
/- The document's own integers. No conditions. -/
open Go.RowKit
set_option maxRecDepth 100000
namespace Go.Proofs.YteahcbeohopdlaaGreatDoor
/-- What a call of the document's own leaves that returns an integer. -/
def RZ (W : World) (z : Int) (e : Ending) (w' : World) : Prop := ∃ A c, e = .returned (.agg #[.bool (decide (z < 0)), .slice A (dq z.natAbs) c]) ∧ Hid (RN w' w'.heap.size A c z.natAbs) ∧ Hid (Below W.heap.size W w')
theorem RN.setn {W : World} {B : Nat} {A : Option Addr} {c m : Nat} (h : RN W B A c m) {p : Addr} {v : Value} (hc : W.cell? p = some v) (hv : ∀ x : Nat, v ≠ I64 x) (u : Value) : RN (W.setCell p u) B A c m := by
  refine ⟨h.1, fun hn => ?_⟩
  obtain ⟨ad, e, hb, hx⟩ := h.2 hn
  refine ⟨ad, e, hb, fun j x hj => ?_⟩
  have h6 := hx j x hj
  rw [World.cell?_setCell_other W p _ u (by intro e; rw [← e, hc] at h6; injection h6 with h6; exact hv x h6)]
  exact h6
theorem rn_z2 {W : World} {A : Option Addr} {c m g : Nat} {v0 : Bool} {a : Option Addr} {l k : Nat} {x y : Value} (h : Hid (RN W W.heap.size A c m)) (e0 : W.cell? ⟨g, 0, none⟩ = some (.bool v0)) (e1 : W.cell? ⟨g, 1, none⟩ = some (.slice a l k)) :
    Hid (RN ((W.setCell ⟨g, 0, none⟩ x).setCell ⟨g, 1, none⟩ y) ((W.setCell ⟨g, 0, none⟩ x).setCell ⟨g, 1, none⟩ y).heap.size A c m) := by
  have h1 := (h.out.setn e0 (by intro x hx; cases hx) x).setn (p := ⟨g, 1, none⟩) ((World.cell?_setCell_other _ _ _ _ (by intro e; cases e)).trans e1) (by intro x hx; cases hx) y
  have : ((W.setCell ⟨g, 0, none⟩ x).setCell ⟨g, 1, none⟩ y).heap.size = W.heap.size := by simp [World.setCell]
  unfold Hid
  rw [this]; exact h1
section
variable {W : World} {z : Int}
set_option maxHeartbeats 2000000 in
theorem zint_h (h1 : -9223372036854775808 ≤ z) (h2 : z ≤ 9223372036854775807) : Calls Tryz.prog 76 #[.int .i64 z] W (RZ W z) := by
  by_cases hn : z < 0
  · have e : -(z + 1) = ((z.natAbs - 1 : Nat) : Int) := by omega
    have CS1 : Hid (∀ W', Calls Tryz.prog 77 #[.int .u64 (-(z + 1))] W' (RefPost W' (z.natAbs - 1))) := fun W' => by rw [e]; exact Small_any (by omega)
    have CS2 : Hid (∀ W', Calls Tryz.prog 77 #[.int .u64 1] W' (RefPost W' 1)) := fun W' => Small_any (n := 1) (by omega)
    have CA : Hid (∀ W' B d B' d', Hid (RN W' W'.heap.size B d (z.natAbs - 1)) → Hid (RN W' W'.heap.size B' d' 1) → Calls Tryz.prog 100 #[.slice B (dq (z.natAbs - 1)) d, .slice B' (dq 1) d'] W' (RefPost W' z.natAbs)) := fun W' B d B' d' h h' => by
      have h3 := rAdd_any h.out h'.out (Nat.le_trans (dq_u64 (by omega)) (by omega)) (Nat.le_trans (dq_u64 (by omega)) (by omega))
      rwa [show z.natAbs - 1 + 1 = z.natAbs by omega] at h3
    have HZ : Hid (decide (z < 0) = true) := decide_eq_true hn
    clear e
    go_enter Tryz.func76, Tryz.ntmps76
    go_wp2_with (first | (go_at_call 77; (with_reducible refine (CS1.out _).mono ?_); rintro e w1 ⟨B, d, rfl, hn1, hbk⟩; have HR := hide ((zc_new _ _ _ _ _ _).up hbk); have HW : Hid (Below W.heap.size W w1) := (bz1 hbk).2.2.2) | (go_at_call 77; (with_reducible refine (CS2.out _).mono ?_); rintro e w2 ⟨B2, d2, rfl, hn2, hbk2⟩; replace HR := hide (HR.out.up hbk2); replace HW := chain HW hbk2.out; replace hn1 := hide ((hn1.out.below hbk2.out).more hbk2.out.size)) | (go_at_call 100; (with_reducible refine (CA.out _ _ _ _ _ hn1 hn2).mono ?_); rintro e w3 ⟨B3, d3, rfl, hn3, hbk3⟩; replace HR := hide (HR.out.up hbk3); replace HW := chain HW hbk3.out; have r0 := HR.out.c0; have r1 := HR.out.c1; have f0 := HR.out.f0; have f1 := HR.out.f1) | fail)
    refine bodyPost_ret (v := .agg #[.bool true, .slice B3 (dq z.natAbs) d3]) (by simp [results, Tryz.results76, go_sem, r0, r1]) rfl ?_
    exact ⟨B3, d3, by rw [HZ.out], rn_z2 hn3 r0 r1, (HW.out.setCell (by simp) _).setCell (by simp) _⟩
  · have e : IntKind.u64.wrap z = ((z.natAbs : Nat) : Int) := by rw [IntKind.wrap_u64]; omega
    have CS1 : Hid (∀ W', Calls Tryz.prog 77 #[.int .u64 (IntKind.u64.wrap z)] W' (RefPost W' z.natAbs)) := fun W' => by rw [e]; exact Small_any (by omega)
    have CS2 : Hid (∀ W', Calls Tryz.prog 77 #[.int .u64 z] W' (RefPost W' z.natAbs)) := fun W' => by rw [show z = ((z.natAbs : Nat) : Int) by omega]; exact Small_any (by omega)
    have HZ : Hid (decide (z < 0) = false) := decide_eq_false hn
    have hn' : 0 ≤ z := by omega
    clear e
    go_enter Tryz.func76, Tryz.ntmps76
    go_wp2_with (first | (go_at_call 77; (with_reducible refine (CS1.out _).mono ?_); rintro e w3 ⟨B3, d3, rfl, hn3, hbk⟩; have HR := hide ((zc_new _ _ _ _ _ _).up hbk); have HW : Hid (Below W.heap.size W w3) := (bz1 hbk).2.2.2; have r0 := HR.out.c0; have r1 := HR.out.c1; have f0 := HR.out.f0; have f1 := HR.out.f1) | (go_at_call 77; (with_reducible refine (CS2.out _).mono ?_); rintro e w3 ⟨B3, d3, rfl, hn3, hbk⟩; have HR := hide ((zc_new _ _ _ _ _ _).up hbk); have HW : Hid (Below W.heap.size W w3) := (bz1 hbk).2.2.2; have r0 := HR.out.c0; have r1 := HR.out.c1; have f0 := HR.out.f0; have f1 := HR.out.f1) | fail)
    refine bodyPost_ret (v := .agg #[.bool false, .slice B3 (dq z.natAbs) d3]) (by simp [results, Tryz.results76, go_sem, r0, r1]) rfl ?_
    exact ⟨B3, d3, by rw [HZ.out], rn_z2 hn3 r0 r1, (HW.out.setCell (by simp) _).setCell (by simp) _⟩
end
end Go.Proofs.YteahcbeohopdlaaGreatDoor
end

section
/- The document's own integers and fractions: ZOf, QOf. Conditions: less than 100000 fours of digits. -/
open Go.RowKit
set_option maxRecDepth 100000
namespace Go.Proofs.YteahcbeohopdlaaGreatDoor
/-- No number stands in a box of flags and slices. -/
def NoI (vs : List Value) : Prop := ∀ v ∈ vs, ∀ x : Nat, v ≠ I64 x
theorem RN.putn {W : World} {B p i : Nat} {vs : List Value} {A : Option Addr} {c m : Nat} (h : RN W B A c m) (hp : At W p vs) (hi : i < vs.length) (hw : NoI vs) (u : Value) : RN (W.setCell ⟨p, i, none⟩ u) B A c m :=
  h.setn (hp.all i _ (List.getElem?_eq_getElem hi)).1 (hw _ (List.getElem_mem hi)) u
/-- In world W the document's own number stands there. -/
def Rn (W : World) (A : Option Addr) (c m : Nat) : Prop := RN W W.heap.size A c m
theorem Rn.up {W W' : World} {A : Option Addr} {c m : Nat} (h : Rn W A c m) (hb : Hid (Below W.heap.size W W')) : Rn W' A c m := (RN.below h hb.out).more hb.out.size
theorem Rn.al {W : World} {A : Option Addr} {c m : Nat} (h : Rn W A c m) (o : Obj) : Rn (W.alloc o) A c m := h.up ((Below.refl _ _).alloc (Nat.le_refl _) o)
theorem Rn.dr {W : World} {A : Option Addr} {c m : Nat} (h : Rn W A c m) : Rn W.drew A c m := h
theorem Rn.of {W : World} {A : Option Addr} {c m : Nat} (h : Hid (RN W W.heap.size A c m)) : Rn W A c m := h
theorem Rn.put {W : World} {p i : Nat} {vs : List Value} {A : Option Addr} {c m : Nat} (h : Rn W A c m) (hp : At W p vs) (hi : i < vs.length) (hw : NoI vs) (u : Value) : Rn (W.setCell ⟨p, i, none⟩ u) A c m := by
  have h1 := RN.putn h hp hi hw u
  have e : (W.setCell ⟨p, i, none⟩ u).heap.size = W.heap.size := by simp [World.setCell]
  unfold Rn
  rw [e]; exact h1
theorem noi2 {b : Bool} {A : Option Addr} {n c : Nat} : NoI [.bool b, .slice A n c] := by
  intro u hu x
  simp at hu
  rcases hu with rfl | rfl <;> (intro e; cases e)
theorem noi3 {b : Bool} {A A' : Option Addr} {n c n' c' : Nat} : NoI [.bool b, .slice A n c, .slice A' n' c'] := by
  intro u hu x
  simp at hu
  rcases hu with rfl | rfl | rfl <;> (intro e; cases e)
theorem Rn.put2 {W : World} {p : Nat} {b0 : Bool} {B0 : Option Addr} {k0 d0 : Nat} {A : Option Addr} {c m : Nat} (h : Rn W A c m) (hp : At W p [.bool b0, .slice B0 k0 d0]) {b : Bool} {B : Option Addr} {k d : Nat} :
    Rn ((W.setCell ⟨p, 0, none⟩ (.bool b)).setCell ⟨p, 1, none⟩ (.slice B k d)) A c m :=
  (h.put hp (by simp) noi2 _).put (hp.put (i := 0) (by simp) (.bool b)) (by simp) noi2 _
theorem Rn.put3 {W : World} {p : Nat} {b0 : Bool} {B0 B1 : Option Addr} {k0 d0 k1 d1 : Nat} {A : Option Addr} {c m : Nat} (h : Rn W A c m) (hp : At W p [.bool b0, .slice B0 k0 d0, .slice B1 k1 d1]) {b : Bool} {B B' : Option Addr} {k d k' d' : Nat} :
    Rn (((W.setCell ⟨p, 0, none⟩ (.bool b)).setCell ⟨p, 1, none⟩ (.slice B k d)).setCell ⟨p, 2, none⟩ (.slice B' k' d')) A c m :=
  ((h.put hp (by simp) noi3 _).put (hp.put (i := 0) (by simp) (.bool b)) (by simp) noi3 _).put ((hp.put (i := 0) (by simp) (.bool b)).put (i := 1) (by simp) (.slice B k d)) (by simp) noi3 _
/-- What a call of the document's own leaves that returns a fraction. -/
def RQ (W : World) (r : Rat) (e : Ending) (w' : World) : Prop := ∃ A c A' c', e = .returned (.agg #[.bool (decide (r.num < 0)), .slice A (dq r.num.natAbs) c, .slice A' (dq r.den) c']) ∧ Rn w' A c r.num.natAbs ∧ Rn w' A' c' r.den ∧ Hid (Below W.heap.size W w')
def RZb (W : World) (b : Bool) (A : Option Addr) (n c m : Nat) (e : Ending) (w' : World) : Prop := e = .returned (.agg #[.bool b, .slice A n c]) ∧ Rn w' A c m ∧ Hid (Below W.heap.size W w')
theorem rn_two {W w0 : World} {p : Nat} {b0 : Bool} {B0 : Option Addr} {k0 d0 : Nat} {A : Option Addr} {c m : Nat} (hp : At W p [.bool b0, .slice B0 k0 d0]) (h : Rn W A c m) (hb : Bel w0 W) (hq : w0.heap.size ≤ p) (b : Bool) (n : Nat) :
    RZb w0 b A n c m (.returned (.agg #[.bool b, .slice A n c])) ((W.setCell ⟨p, 0, none⟩ (.bool b)).setCell ⟨p, 1, none⟩ (.slice A n c)) :=
  ⟨rfl, h.put2 hp, (Below.setCell hb hq _).setCell hq _⟩
section
variable {W : World} {A A' : Option Addr} {c c' m : Nat} {z : Int}
set_option maxHeartbeats 1000000 in
theorem rzof_h {b s : Bool} (h : Rn W A c m) (hs : s = (b && decide (0 < m))) : Calls Tryz.prog 96 #[.bool b, .slice A (dq m) c] W (RZb W s A (dq m) c m) := by
  have HE : Hid (∀ o, Rn (W.alloc o) A c m) := fun o => h.al o
  by_cases h0 : 0 < m
  · have h1 : 0 < dq m := dq_pos.2 h0
    have HS : Hid (s = b) := by unfold Hid; rw [hs, decide_eq_true h0, Bool.and_true]
    clear hs h h0
    cases b
    · go_enter Tryz.func96, Tryz.ntmps96
      go_wp2
      exact bodyPost_ret (v := .agg #[.bool false, .slice A (dq m) c]) (by simp [results, Tryz.results96, go_sem]) rfl ⟨by rw [HS.out], HE.out _, ((Bel.refl W).al _).hid⟩
    · go_enter Tryz.func96, Tryz.ntmps96
      go_wp2
      exact bodyPost_ret (v := .agg #[.bool true, .slice A (dq m) c]) (by simp [results, Tryz.results96, go_sem]) rfl ⟨by rw [HS.out], HE.out _, ((Bel.refl W).al _).hid⟩
  · have h1 : dq m = 0 := by have := dq_pos (n := m); omega
    have HS : Hid (s = false) := by unfold Hid; rw [hs, decide_eq_false h0, Bool.and_false]
    have HZ := hide h1
    clear hs h h0
    cases b
    all_goals
      go_enter Tryz.func96, Tryz.ntmps96
      go_wp2
      exact bodyPost_ret (v := .agg #[.bool false, .slice A 0 c]) (by simp [results, Tryz.results96, go_sem]) rfl ⟨by rw [HS.out, HZ.out], HE.out _, ((Bel.refl W).al _).hid⟩

theorem dq_mono {a b : Nat} (h : a ≤ b) : dq a ≤ dq b := digs_len_mono (b := D4) (by decide) h
theorem rz_of {s : Bool} {A : Option Addr} {c : Nat} {z : Int} {w' : World} {e : Ending} (h : RZb W s A (dq z.natAbs) c z.natAbs e w') (hs : s = decide (z < 0)) : RZ W z e w' := ⟨A, c, by rw [h.1, hs], h.2.1, h.2.2⟩
theorem zsig {b : Bool} {z : Int} (h : z = zi b z.natAbs) : decide (z < 0) = (b && decide (0 < z.natAbs)) := by
  cases b
  · rw [zi_false] at h; rw [Bool.false_and]; exact decide_eq_false (by omega)
  · rw [zi_true] at h
    by_cases h0 : 0 < z.natAbs
    · rw [decide_eq_true h0, Bool.true_and]; exact decide_eq_true (by omega)
    · rw [decide_eq_false h0, Bool.and_false]; exact decide_eq_false (by omega)
end
end Go.Proofs.YteahcbeohopdlaaGreatDoor
end

section
/- Parted from Rgd: by function. -/
open Go.RowKit
set_option maxRecDepth 100000
namespace Go.Proofs.YteahcbeohopdlaaGreatDoor
section
variable {W : World} {A A' : Option Addr} {c c' m : Nat} {z : Int}
set_option maxHeartbeats 2000000 in
theorem rqof_h {b : Bool} {d : Nat} {r : Rat} (h : Rn W A c z.natAbs) (h' : Rn W A' c' d) (hz : z = zi b z.natAbs) (h0 : 0 < d) (hr : mkRat z d = r) (hl : dq z.natAbs ≤ 99999) (hl' : dq d ≤ 99999) :
    Calls Tryz.prog 75 #[.agg #[.bool b, .slice A (dq z.natAbs) c], .slice A' (dq d) c'] W (RQ W r) := by
  obtain ⟨g, hg⟩ : ∃ g, g = Nat.gcd z.natAbs d := ⟨_, rfl⟩
  obtain ⟨hg0, e1, e2, e3, e4, e5⟩ := low_terms (z := z) h0 hg
  rw [hr] at e1 e2 e5
  obtain ⟨v, hv⟩ : ∃ v, v = r.num.natAbs := ⟨_, rfl⟩
  obtain ⟨u, hu⟩ : ∃ u, u = r.den := ⟨_, rfl⟩
  obtain ⟨m, hm⟩ : ∃ m, m = z.natAbs := ⟨_, rfl⟩
  rw [← hm] at h hl hg e1 e3 ⊢
  obtain ⟨s, hs⟩ : ∃ s, s = decide (r.num < 0) := ⟨_, rfl⟩
  have hgl : g ≤ d := Nat.le_of_dvd h0 (by rw [hg]; exact Nat.gcd_dvd_right _ _)
  have hgd : dq g ≤ 99999 := Nat.le_trans (dq_mono hgl) hl'
  have CG : Hid (∀ W', Bel W W' → Calls Tryz.prog 134 #[.slice A (dq m) c, .slice A' (dq d) c'] W' (RefPost W' g)) := fun W' hb => by
    have h1 := rGcd_any (h.up hb) (h'.up hb) hl hl'
    rw [← hg] at h1
    exact h1
  have CD : Hid (∀ W' B e, Bel W W' → Rn W' B e g → Calls Tryz.prog 122 #[.slice A (dq m) c, .slice B (dq g) e] W' (RDivR W' v 0)) := fun W' B e hb hn => by
    have h1 := rDiv_any (h.up hb) hn hl hgd hg0
    rw [e3, ← e1, ← hv] at h1
    exact h1
  have CE : Hid (∀ W' B e, Bel W W' → Rn W' B e g → Calls Tryz.prog 122 #[.slice A' (dq d) c', .slice B (dq g) e] W' (RDivR W' u 0)) := fun W' B e hb hn => by
    have h1 := rDiv_any (h'.up hb) hn hl' hgd hg0
    rw [e4, ← e2, ← hu] at h1
    exact h1
  have CZ : Hid (∀ W' B e, Rn W' B e v → Calls Tryz.prog 96 #[.bool b, .slice B (dq v) e] W' (RZb W' s B (dq v) e v)) := fun W' B e hn => rzof_h hn (by
    rw [hs, e5, zsig hz, ← hm]
    congr 1
    refine decide_eq_decide.2 ⟨fun h => ?_, fun h => ?_⟩
    · rw [hv, e1]; exact Nat.div_pos (Nat.le_of_dvd h (Nat.dvd_of_mod_eq_zero e3)) hg0
    · rcases Nat.eq_zero_or_pos m with hm0 | hm0
      · rw [hv, e1, hm0, Nat.zero_div] at h; exact absurd h (Nat.lt_irrefl 0)
      · exact hm0)
  have HV := hide hv
  have HU := hide hu
  have HS := hide hs
  clear h h' hz h0 hr hl hl' hg hg0 e1 e2 e3 e4 e5 hv hu hm hs hgd hgl
  have HB := Bel.refl W
  go_enter Tryz.func75, Tryz.ntmps75
  go_wp2_with (first | (go_at_call 134; (with_reducible refine (CG.out _ ((HB.al _).al _)).mono ?_); rintro e w1 ⟨Ag, cg, rfl, ng, hbk⟩; have HP := At.up ((at_new0 _ _ _).al _) hbk; have HR := At.up (at_new1 _ _ _ _) hbk; replace HB := ((HB.al _).al _).up hbk; have hp_0 := HP.c0; have hp_1 := HP.c1; have hp_l := HP.lt; replace ng := Rn.of ng) | (go_at_call 122; (with_reducible refine (CD.out _ _ _ HB ng).mono ?_); rintro e w2 ⟨Ao, co, Ax, cx, rfl, no, nx, hbk⟩; replace HB := HB.up hbk; replace HP := HP.up hbk; replace HR := HR.up hbk; replace ng := ng.up hbk; clear hp_0 hp_1 hp_l; have hp_0 := HP.c0; have hp_1 := HP.c1; have hp_l := HP.lt; replace no := Rn.of no) | (go_at_call 122; (with_reducible refine (CE.out _ _ _ HB ng).mono ?_); rintro e w3 ⟨Au, cu, Ay, cy, rfl, nu, ny, hbk⟩; replace HB := HB.up hbk; replace HP := HP.up hbk; replace HR := HR.up hbk; replace no := no.up hbk; clear hp_0 hp_1 hp_l; have hp_0 := HP.c0; have hp_1 := HP.c1; have hp_l := HP.lt; replace nu := Rn.of nu) | (go_at_call 96; (with_reducible refine (CZ.out _ _ _ no).mono ?_); rintro e w4 ⟨rfl, nz, hbk⟩; replace HB := HB.up hbk; replace HR := HR.up hbk; replace nu := nu.up hbk; clear hp_0 hp_1 hp_l; have hr_0 := HR.c0; have hr_1 := HR.c1; have hr_2 := HR.c2; have hr_l := HR.lt; have hr_f0 := HR.f0; have hr_f1 := HR.f1; have hr_f2 := HR.f2) | fail)
  refine bodyPost_ret (v := .agg #[.bool s, .slice Ao (dq v) co, .slice Au (dq u) cu]) (by simp [results, Tryz.results75, go_sem, hr_0, hr_1, hr_2]) rfl ?_
  have hv := HV.out
  have hu := HU.out
  have hs := HS.out
  subst hv
  subst hu
  subst hs
  exact ⟨Ao, co, Au, cu, rfl, nz.put3 HR, nu.put3 HR, below3 HB (by omega) _ _ _⟩
end
end Go.Proofs.YteahcbeohopdlaaGreatDoor
end
