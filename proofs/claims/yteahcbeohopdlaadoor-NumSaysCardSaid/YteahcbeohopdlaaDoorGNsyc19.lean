/- Several texts in one, each with its own sentence and conditions. -/
import Derived.Test.YteahcbeohopdlaaDoorGNsyc15
import Derived.Test.YteahcbeohopdlaaDoorZgl
import Derived.Test.YteahcbeohopdlaaDoorGNsyc8
import Derived.Maps.AppendAt
section
/- Statements of num: what the document tells of minus seven. No conditions. -/
open Go.RowKit
set_option maxRecDepth 100000
namespace Go.Proofs.YteahcbeohopdlaaDoor
def m7 : Int := -7
def m4 : Int := -4
def p1 : Int := 1
def p2 : Int := 2
def m1 : Int := -1
theorem dl_small2 {m : Nat} (h : m ≤ 18446744073709551615) : dl m ≤ 2 := dl_le (k := 2) (by rw [show W32 ^ 2 = 18446744073709551616 from rfl]; omega)
theorem decZ_m7 : decZ m7 = [45, 55] := by
  have h : digs 10 7 = [7] := by rw [digs_pos (by omega) (by omega), show 7 / 10 = 0 from rfl, digs_zero]
  unfold decZ
  rw [if_pos (by decide)]
  unfold decL
  rw [if_neg (by decide), show m7.natAbs = 7 from rfl, h]
  rfl
theorem aw2_text {W : World} {A : Option Addr} {c : Nat} (h : ZA W (decide (m7 < 0)) A (dl m7.natAbs) c m7) : Calls Tryd.prog 28 #[.agg #[.bool (decide (m7 < 0)), .slice A (dl m7.natAbs) c]] W fun e w' => e = .returned (.string ⟨#[45, 55]⟩) ∧ Hid (Below W.heap.size W w') := by
  refine (ztext_h h).mono ?_
  rintro e w' ⟨t, rfl, ht, hb⟩
  refine ⟨?_, hb⟩
  have e1 : t = ⟨#[45, 55]⟩ := Go.WideShapes.bytes_inj (by rw [ht.out, decZ_m7])
  rw [e1]
set_option maxHeartbeats 4000000 in
/-- What the document tells of minus seven: it holds. -/
theorem awake2_any (W : World) : Calls Tryd.prog 10 #[] W (BoolR W true) := by
  have C7 : Hid (∀ W', Calls Tryd.prog 30 #[.int .i64 (-7)] W' (ZR W' m7)) := fun W' => zof_h (z := m7) (by decide) (by decide)
  have C2 : Hid (∀ W', Calls Tryd.prog 30 #[.int .i64 2] W' (ZR W' p2)) := fun W' => zof_h (z := p2) (by decide) (by decide)
  have C1 : Hid (∀ W', Calls Tryd.prog 30 #[.int .i64 (-1)] W' (ZR W' m1)) := fun W' => zof_h (z := m1) (by decide) (by decide)
  have CD : Hid (∀ W' A c A' c', ZA W' (decide (m7 < 0)) A (dl m7.natAbs) c m7 → ZA W' (decide (p2 < 0)) A' (dl p2.natAbs) c' p2 → Calls Tryd.prog 13 #[.agg #[.bool (decide (m7 < 0)), .slice A (dl m7.natAbs) c], .agg #[.bool (decide (p2 < 0)), .slice A' (dl p2.natAbs) c']] W' (ZDivR W' m4 p1)) := fun W' A c A' c' h h' => zdiv_h h h' (by decide) (Nat.le_trans (dl_small2 (by decide)) (by omega)) (by decide) (by decide)
  have CI4 : Hid (∀ W', Calls Tryd.prog 31 #[.int .i64 (-4)] W' (RZ W' m4)) := fun W' => zint_h (z := m4) (by decide) (by decide)
  have CI1 : Hid (∀ W', Calls Tryd.prog 31 #[.int .i64 1] W' (RZ W' p1)) := fun W' => zint_h (z := p1) (by decide) (by decide)
  have CZ4 : Hid (∀ W' A c A' c', ZA W' (decide (m4 < 0)) A (dl m4.natAbs) c m4 → Hid (RN W' W'.heap.size A' c' m4.natAbs) → Calls Tryd.prog 16 #[.agg #[.bool (decide (m4 < 0)), .slice A (dl m4.natAbs) c], .agg #[.bool (decide (m4 < 0)), .slice A' (dq m4.natAbs) c']] W' (BoolR W' true)) := fun W' A c A' c' h h' => zis_h h h' (Nat.lt_of_le_of_lt (dl_small2 (by decide)) (by omega))
  have CZ1 : Hid (∀ W' A c A' c', ZA W' (decide (p1 < 0)) A (dl p1.natAbs) c p1 → Hid (RN W' W'.heap.size A' c' p1.natAbs) → Calls Tryd.prog 16 #[.agg #[.bool (decide (p1 < 0)), .slice A (dl p1.natAbs) c], .agg #[.bool (decide (p1 < 0)), .slice A' (dq p1.natAbs) c']] W' (BoolR W' true)) := fun W' A c A' c' h h' => zis_h h h' (Nat.lt_of_le_of_lt (dl_small2 (by decide)) (by omega))
  have CS1 : Hid (∀ W' A c, ZA W' (decide (m1 < 0)) A (dl m1.natAbs) c m1 → Calls Tryd.prog 19 #[.agg #[.bool (decide (m1 < 0)), .slice A (dl m1.natAbs) c]] W' (IntPost W' (-1))) := fun W' A c h => sign_h h (by decide)
  have CT : Hid (∀ W' A c, ZA W' (decide (m7 < 0)) A (dl m7.natAbs) c m7 → Calls Tryd.prog 28 #[.agg #[.bool (decide (m7 < 0)), .slice A (dl m7.natAbs) c]] W' (fun e w' => e = .returned (.string ⟨#[45, 55]⟩) ∧ Hid (Below W'.heap.size W' w'))) := fun W' A c h => aw2_text h
  go_enter Tryd.func10, Tryd.ntmps10
  go_wp2_with (first | (go_at_call 30; (with_reducible refine (C7.out _).mono ?_); rintro e w1 ⟨A1, c1, rfl, z1, hbk⟩; have HW := hbk) | (go_at_call 30; (with_reducible refine (C2.out _).mono ?_); rintro e w2 ⟨A2, c2, rfl, z2, hbk⟩; replace HW := chain HW hbk.out; replace z1 := z1.up hbk) | (go_at_call 13; (with_reducible refine (CD.out _ _ _ _ _ z1 z2).mono ?_); rintro e w3 ⟨A3, c3, A4, c4, rfl, zq, zr, hbk⟩; replace HW := chain HW hbk.out) | fail)
  obtain ⟨W1, hW1⟩ : ∃ W1, W1 = (w3.alloc (.cells #[.bool (decide (m4 < 0)), .slice A3 (dl m4.natAbs) c3] 26)).alloc (.cells #[.bool (decide (p1 < 0)), .slice A4 (dl p1.natAbs) c4] 26) := ⟨_, rfl⟩
  rw [← hW1]
  obtain ⟨p, hp⟩ : ∃ p, p = w3.heap.size := ⟨_, rfl⟩
  have HQ : Hid (Zcell W1.drew p (decide (m4 < 0)) A3 (dl m4.natAbs) c3) := by rw [hW1, hp]; exact Zcell.dr ((zc_new _ _ _ _ _ _).al _)
  have HS : Hid (Zcell W1.drew (p + 1) (decide (p1 < 0)) A4 (dl p1.natAbs) c4) := by rw [hW1, hp]; exact Zcell.dr (zc_new1 _ _ _ _ _ _ _)
  replace HW : Hid (Below W.heap.size W W1.drew) := by rw [hW1]; exact Below.drew ((HW.out.alloc HW.out.size _).alloc (by have := HW.out.size; simp; omega) _)
  replace zq := ZA.dr ((zq.al (.cells #[.bool (decide (m4 < 0)), .slice A3 (dl m4.natAbs) c3] 26)).al (.cells #[.bool (decide (p1 < 0)), .slice A4 (dl p1.natAbs) c4] 26))
  replace zr := ZA.dr ((zr.al (.cells #[.bool (decide (m4 < 0)), .slice A3 (dl m4.natAbs) c3] 26)).al (.cells #[.bool (decide (p1 < 0)), .slice A4 (dl p1.natAbs) c4] 26))
  rw [← hW1] at zq zr
  simp only [← hp]
  clear hW1 hbk z1 z2 hp
  go_region_held3 (fun w' => w'.cell? ⟨p, 0, none⟩ = some (.bool (decide (m4 < 0))) ∧ w'.cell? ⟨p, 1, none⟩ = some (.slice A3 (dl m4.natAbs) c3) ∧ w'.cell? ⟨p + 1, 0, none⟩ = some (.bool (decide (p1 < 0))) ∧ w'.cell? ⟨p + 1, 1, none⟩ = some (.slice A4 (dl p1.natAbs) c4))
    (first | exact ⟨HQ.out.c0, HQ.out.c1, HS.out.c0, HS.out.c1⟩)
    (first | (go_at_call 31; (with_reducible refine (CI4.out _).mono ?_); rintro e w5 ⟨A5, c5, rfl, hr5, hbk⟩; replace HQ := hide (HQ.out.up hbk); replace HS := hide (HS.out.up hbk); replace zq := zq.up hbk; replace zr := zr.up hbk; replace HW := chain HW hbk.out) | (go_at_call 16; (with_reducible refine (CZ4.out _ _ _ _ _ zq hr5).mono ?_); rintro e w6 ⟨rfl, hbk⟩; replace HQ := hide (HQ.out.up hbk); replace HS := hide (HS.out.up hbk); replace zq := zq.up hbk; replace zr := zr.up hbk; replace HW := chain HW hbk.out) | (go_at_call 31; (with_reducible refine (CI1.out _).mono ?_); rintro e w7 ⟨A7, c7, rfl, hr7, hbk⟩; replace HQ := hide (HQ.out.up hbk); replace HS := hide (HS.out.up hbk); replace zq := zq.up hbk; replace zr := zr.up hbk; replace HW := chain HW hbk.out) | (go_at_call 16; (with_reducible refine (CZ1.out _ _ _ _ _ zr hr7).mono ?_); rintro e w8 ⟨rfl, hbk⟩; replace HQ := hide (HQ.out.up hbk); replace HS := hide (HS.out.up hbk); replace zq := zq.up hbk; replace zr := zr.up hbk; replace HW := chain HW hbk.out) | (go_at_call 30; (with_reducible refine (C7.out _).mono ?_); rintro e w9 ⟨A9, c9, rfl, z9, hbk⟩; replace HQ := hide (HQ.out.up hbk); replace HS := hide (HS.out.up hbk); replace zq := zq.up hbk; replace zr := zr.up hbk; replace HW := chain HW hbk.out) | (go_at_call 28; (with_reducible refine (CT.out _ _ _ z9).mono ?_); rintro e wa ⟨rfl, hbk⟩; replace HQ := hide (HQ.out.up hbk); replace HS := hide (HS.out.up hbk); replace zq := zq.up hbk; replace zr := zr.up hbk; replace HW := chain HW hbk.out) | (go_at_call 30; (with_reducible refine (C1.out _).mono ?_); rintro e wb ⟨Ab, cb, rfl, zb, hbk⟩; replace HQ := hide (HQ.out.up hbk); replace HS := hide (HS.out.up hbk); replace zq := zq.up hbk; replace zr := zr.up hbk; replace HW := chain HW hbk.out) | (go_at_call 19; (with_reducible refine (CS1.out _ _ _ zb).mono ?_); rintro e wc ⟨rfl, hbk⟩; replace HQ := hide (HQ.out.up hbk); replace HS := hide (HS.out.up hbk); replace zq := zq.up hbk; replace zr := zr.up hbk; replace HW := chain HW hbk.out) | fail)
  go_wp2
  go_ret
  exact ⟨rfl, HW⟩
/-- In every later world the sign and the slice tell z. -/
def ZLater (w : World) (b : Bool) (A : Option Addr) (n c : Nat) (z : Int) : Prop := ∀ W, Below w.heap.size w W → ZA W b A n c z
theorem long_h {W : World} {b : Bool} {A : Option Addr} {n c : Nat} (hn : n ≤ 24) : Calls Tryd.prog 11 #[.agg #[.bool b, .slice A n c]] W (BoolR W false) := by
  have hf : decide ((24 : Int) < (n : Int)) = false := decide_eq_false (by omega)
  clear hn
  go_enter Tryd.func11, Tryd.ntmps11
  go_wp2
  go_ret
  exact ⟨rfl, (Below.refl _ _).alloc (Nat.le_refl _) _⟩
theorem long_n {W : World} {b : Bool} {A : Option Addr} {n c : Nat} (hn : ¬ n ≤ 24) : Calls Tryd.prog 11 #[.agg #[.bool b, .slice A n c]] W (BoolR W true) := by
  have hf : decide ((24 : Int) < (n : Int)) = true := decide_eq_true (by omega)
  clear hn
  go_enter Tryd.func11, Tryd.ntmps11
  go_wp2
  go_ret
  exact ⟨rfl, (Below.refl _ _).alloc (Nat.le_refl _) _⟩
def SgnGe (W : World) (e : Ending) (w' : World) : Prop := (∃ s, 0 ≤ s ∧ e = .returned (.int .i64 s)) ∧ Hid (Below W.heap.size W w')
theorem sgn_ge {W : World} {b : Bool} {A : Option Addr} {n c : Nat} {z : Int} (h : ZA W b A n c z) (h0 : 0 ≤ z) : Calls Tryd.prog 19 #[.agg #[.bool b, .slice A n c]] W (SgnGe W) :=
  (sign_h h rfl).mono fun e w' ⟨he, hb⟩ => ⟨⟨_, by
    rcases Int.lt_or_eq_of_le h0 with h | h
    · rw [Int.sign_eq_one_of_pos h]; decide
    · rw [← h]; decide, he⟩, hb⟩
theorem dl_pow {m : Nat} (h : dl m ≤ 24) : m < W32 ^ 24 := Nat.lt_of_lt_of_le (lt_pow_digs (b := W32) (by decide) m) (Nat.pow_le_pow_right (by decide) h)
theorem Zcell.set2 {W : World} {p q : Nat} {s : Bool} {A : Option Addr} {n c : Nat} (h : Zcell W q s A n c) (hpq : p ≠ q) (x y : Value) : Zcell ((W.setCell ⟨p, 0, none⟩ x).setCell ⟨p, 1, none⟩ y) q s A n c :=
  ⟨far2 hpq h.c0, far2 hpq h.c1, by rw [World.frozen?_setCell, World.frozen?_setCell]; exact h.f0, by rw [World.frozen?_setCell, World.frozen?_setCell]; exact h.f1, by have := h.lt; simpa [World.setCell] using this⟩
theorem Zcell.put2 {W : World} {p : Nat} {s s' : Bool} {A A' : Option Addr} {n c n' c' : Nat} (h : Zcell W p s A n c) : Zcell ((W.setCell ⟨p, 0, none⟩ (.bool s')).setCell ⟨p, 1, none⟩ (.slice A' n' c')) p s' A' n' c' :=
  ⟨(set2b h).1, (set2b h).2, by rw [World.frozen?_setCell, World.frozen?_setCell]; exact h.f0, by rw [World.frozen?_setCell, World.frozen?_setCell]; exact h.f1, by have := h.lt; simpa [World.setCell] using this⟩
theorem ZA.set2 {W : World} {p : Nat} {s s' : Bool} {A A' : Option Addr} {n c n' c' : Nat} {z : Int} (h : ZA W s A n c z) (hp : Zcell W p s' A' n' c') (x y : Value) : ZA ((W.setCell ⟨p, 0, none⟩ x).setCell ⟨p, 1, none⟩ y) s A n c z := ⟨nm_z2 h.1 hp.c0 hp.c1, h.2⟩
theorem al3z (W : World) (o1 o2 o3 : Obj) : Below W.heap.size W (((W.alloc o1).alloc o2).alloc o3) := al3 W o1 o2 o3
end Go.Proofs.YteahcbeohopdlaaDoor
end

section
/- The document's own numbers: Sub. Conditions: at most 100000 fours of digits; a is at least b. -/
open Go.RowKit
set_option maxRecDepth 100000
namespace Go.Proofs.YteahcbeohopdlaaDoor
theorem rsub_end {V m n k cr : Nat} (h : V + n = m + D4 ^ k * cr) (hV : V < D4 ^ k) (hnm : n ≤ m) (hc : cr ≤ 1) : V = m - n := by
  rcases Nat.eq_zero_or_pos cr with h0 | h0
  · rw [h0, Nat.mul_zero] at h; omega
  · obtain rfl : cr = 1 := by omega
    rw [Nat.mul_one] at h; omega
set_option maxHeartbeats 2000000 in
theorem rSub_any {A A' : Option Addr} {m n c c' : Nat} {w : World} (h : RN w w.heap.size A c m) (h' : RN w w.heap.size A' c' n) (hl : dq m ≤ 100000) (hnm : n ≤ m) :
    Calls Tryd.prog 71 #[.slice A (dq m) c, .slice A' (dq n) c'] w (RefPost w (m - n)) := by
  have HX := hide h
  have HY := hide h'
  have HNM := hide hnm
  have HLN : Hid (dq n ≤ dq m) := digs_len_mono (by decide) hnm
  obtain ⟨i0, hi0, hz0, hz1, hz2⟩ := info_parts Tryd.infoInt
  have I0 := hide hi0
  have Z0 := hide hz0
  have Z1 := hide hz1
  have Z2 := hide hz2
  clear hi0 hz0 hz1 hz2 h h' hnm
  go_enter Tryd.func71, Tryd.ntmps71
  go_wp2
  go_loopw [5, 6, 7] (fun dv cv iv wr => ∃ (i cr : Nat) (dd : List Nat), i ≤ dq m ∧ cr ≤ 1 ∧ cv = .int .i64 (cr : Int) ∧ iv = .int .i64 (i : Int) ∧ Hid (dd.length = i) ∧ Hid (Good4 dd) ∧
      Hid (val D4 dd + val D4 ((digs D4 n).take i) = val D4 ((digs D4 m).take i) + D4 ^ i * cr) ∧ Hid (wr.ownsRow w.heap.size 3 1 dv dd.length (dd.map I64)) ∧ Hid (Below w.heap.size w wr))
    (fun _ _ iv _ => dq m - (intOf iv).toNat)
  case atStart => exact ⟨0, 0, [], Nat.zero_le _, by omega, rfl, rfl, rfl, by intro x hx; simp at hx, by simp [Hid, val], World.ownsRow_nil _ _ _ _, Below.refl _ _⟩
  case round =>
    obtain ⟨i, cr, dd, hi, hcr, rfl, rfl, hdl, hdg, hval, hown, hbel⟩ := hrel
    by_cases hlt : i < dq m
    · obtain ⟨x, hx⟩ : ∃ x, x = (digs D4 m)[i]?.getD 0 := ⟨_, rfl⟩
      obtain ⟨y, hy⟩ : ∃ y, y = (digs D4 n)[i]?.getD 0 := ⟨_, rfl⟩
      have hx9 : x ≤ 9999 := by rw [hx]; exact getD_lt (good4_digs m) i
      have hy9 : y ≤ 9999 := by rw [hy]; exact getD_lt (good4_digs n) i
      have CX := hide (at_any (i := i) (c := c) (show dq m = (digs D4 m).length from rfl) (HX.out.below hbel.out).2)
      have CY := hide (at_any (i := i) (c := c') (show dq n = (digs D4 n).length from rfl) (HY.out.below hbel.out).2)
      have RX := hide (val_take_getD D4 (digs D4 m) i)
      have RY := hide (val_take_getD D4 (digs D4 n) i)
      rw [← hx] at CX RX
      rw [← hy] at CY RY
      have hdl2 : dd.length ≤ 300000 := by rw [hdl.out]; omega
      have H63 : Hid (dd.length + 1 ≤ maxLen) := by simp only [maxLen, Hid]; omega
      have HB : Hid (∀ u : Value, w.heap.size ≤ (wr.alloc (.cells #[u] 3)).heap.size) := fun u => by have := hbel.out.size; simp; omega
      have FIN : Hid (∀ (d cr' : Nat) (v2 : Value) (w3 : World), d + (cr + y) = x + D4 * cr' → d ≤ 9999 → w3.ownsRow w.heap.size 3 1 v2 (dd.length + 1) (dd.map I64 ++ [.int .i64 (d : Int)]) → Below w.heap.size w w3 →
          ∃ de : List Nat, Hid (de.length = i + 1) ∧ Hid (Good4 de) ∧ Hid (val D4 de + val D4 ((digs D4 n).take (i + 1)) = val D4 ((digs D4 m).take (i + 1)) + D4 ^ (i + 1) * cr') ∧ Hid (w3.ownsRow w.heap.size 3 1 v2 de.length (de.map I64)) ∧ Hid (Below w.heap.size w w3)) := by
        intro d cr' v2 w3 hd hd9 ho hb
        refine ⟨dd ++ [d], by unfold Hid; rw [List.length_append, hdl.out]; rfl, ?_, ?_, ?_, hb⟩
        · intro z hz
          rcases List.mem_append.1 hz with hz | hz
          · exact hdg.out z hz
          · simp at hz; subst hz; rw [D4_eq]; omega
        · unfold Hid
          rw [val_snoc, hdl.out, Nat.pow_succ, RX.out, RY.out]
          exact sub_math hval.out rfl hd
        · unfold Hid
          rw [List.length_append, List.map_append]
          exact ho
      clear hx hy
      by_cases hneg : x < y + cr
      · obtain ⟨d, hd⟩ : ∃ d, d + (y + cr) = x + 10000 := ⟨x + 10000 - (y + cr), by omega⟩
        have e1 : (x : Int) - (y : Int) - (cr : Int) + 10000 = (d : Int) := by omega
        have hneg2 : (x : Int) - (y : Int) - (cr : Int) < 0 := by omega
        have hneg3 : (x : Int) - (y : Int) < (cr : Int) := by omega
        have HD : Hid (d + (cr + y) = x + D4 * 1 ∧ d ≤ 9999) := by unfold Hid; rw [D4_eq]; omega
        clear hd
        go_wp2_with (first | (go_at_call 110; first | ((with_reducible refine CX.out.mono ?_); rintro e w' ⟨rfl, rfl⟩) | ((with_reducible refine CY.out.mono ?_); rintro e w' ⟨rfl, rfl⟩)) | (at_builtin; go_must (refine wpList_append_own _ rfl (.tmp 28) (.tmp 30) 30 rfl w.heap.size 3 i0 (.int .i64 0) 1 8 Tryd.underlying30 I0.out Z0.out Z1.out Z2.out rfl (by decide) _ _ _ rfl (hown.out.alloc _) ⟨wr.heap.size, 0, none⟩ 1 1 [.int .i64 (d : Int)] rfl rfl (cell_one_new _ _ _) (by intro u hu; simp at hu; subst hu; rfl) H63.out (by omega) (HB.out _) ?_; intro v2 w3 hown' hgrow hnil)))
        go_roundw
        case rel =>
          obtain ⟨de, g1, g2, g3, g4, g5⟩ := FIN.out d 1 v2 w3 HD.out.1 HD.out.2 hown' (app_below hown.out hbel.out (Nat.le_refl _) hgrow)
          exact ⟨i + 1, 1, de, by omega, by omega, rfl, by go_num, g1, g2, g3, g4, g5⟩
        case measure => simp [intOf]; omega
      · obtain ⟨d, hd⟩ : ∃ d, d + (y + cr) = x := ⟨x - (y + cr), by omega⟩
        have e1 : (x : Int) - (y : Int) - (cr : Int) = (d : Int) := by omega
        have HD : Hid (d + (cr + y) = x + D4 * 0 ∧ d ≤ 9999) := by unfold Hid; rw [D4_eq]; omega
        have hd0 : ¬ (d : Int) < 0 := by omega
        clear hd
        go_wp2_with (first | (go_at_call 110; first | ((with_reducible refine CX.out.mono ?_); rintro e w' ⟨rfl, rfl⟩) | ((with_reducible refine CY.out.mono ?_); rintro e w' ⟨rfl, rfl⟩)) | (at_builtin; go_must (refine wpList_append_own _ rfl (.tmp 28) (.tmp 30) 30 rfl w.heap.size 3 i0 (.int .i64 0) 1 8 Tryd.underlying30 I0.out Z0.out Z1.out Z2.out rfl (by decide) _ _ _ rfl (hown.out.alloc _) ⟨wr.heap.size, 0, none⟩ 1 1 [.int .i64 (d : Int)] rfl rfl (cell_one_new _ _ _) (by intro u hu; simp at hu; subst hu; rfl) H63.out (by omega) (HB.out _) ?_; intro v2 w3 hown' hgrow hnil)))
        go_roundw
        case rel =>
          obtain ⟨de, g1, g2, g3, g4, g5⟩ := FIN.out d 0 v2 w3 HD.out.1 HD.out.2 hown' (app_below hown.out hbel.out (Nat.le_refl _) hgrow)
          exact ⟨i + 1, 0, de, by omega, by omega, rfl, by go_num, g1, g2, g3, g4, g5⟩
        case measure => simp [intOf]; omega
    · obtain rfl : i = dq m := by omega
      have HV : Hid (val D4 dd = m - n) := by
        have h1 := hval.out
        rw [List.take_of_length_le (show (digs D4 m).length ≤ dq m from Nat.le_refl _), List.take_of_length_le (show (digs D4 n).length ≤ dq m from HLN.out), val_digs4, val_digs4] at h1
        have h2 := val_lt dd hdg.out
        rw [hdl.out] at h2
        exact rsub_end h1 h2 HNM.out hcr
      obtain ⟨A2, c2, he, hc, hr⟩ := row_rd hown.out
      cases he
      have HR := hide hr
      have hdl2 : dd.length ≤ 300000 := by rw [hdl.out]; omega
      go_wp2_with (first | (go_at_call 109; go_must (refine (rtrim_post rfl HV.out HR.out hdg.out (by omega) hc).mono ?_); rintro e w2 ⟨rfl, rfl⟩))
      go_ret
      exact ⟨A2, c2, rfl, rn_of rfl HV.out HR.out hdg.out hc, hbel⟩
end Go.Proofs.YteahcbeohopdlaaDoor
end

section
/- Words for the document's own division: the reckoning, and append of any slice that reads as a list. No conditions. -/
open Go.RowKit
set_option maxRecDepth 100000
namespace Go.Proofs.YteahcbeohopdlaaDoor
section
variable {P : Program} {w : World}
/-- Of a nil slice append adds nothing. -/
theorem app_nil (base : Nat) (t ty e : TypeId) (i : TypeInfo) (size : Nat) (ht : P.underlying t = some (.slice e)) (hi : P.info? e = some i)
    (v : Value) (n : Nat) (xs : List Value) (hown : w.ownsRow base e size v n xs) (c : Nat) : (Builtin.append_ #[t, t] ty #[v, .slice none 0 c]).run P w = .ok v w := by
  rcases hown.2 with ⟨rfl, rfl⟩ | ⟨g, cap, cur, rfl, _, _, hnc, _⟩
  · simp [Builtin.append_, run_underlying ht, sizeOf, typeInfo, hi, Builtin.lenOf, Builtin.firstCells]
  · simp [Builtin.append_, run_underlying ht, sizeOf, typeInfo, hi, Builtin.lenOf, Builtin.firstCells, hnc, storeCells]
theorem app_run {f : Nat → Value} (hf : ∀ x, (f x).oneCell' = true) (base : Nat) (t ty e : TypeId) (i : TypeInfo) (z : Value) (bytes : Nat) (ht : P.underlying t = some (.slice e)) (hi : P.info? e = some i) (hz : i.zero = some z)
    (hsize : i.size = 1) (hby : i.bytes = bytes) (hzs : z.cells.size = 1) {v : Value} {n : Nat} {xs : List Value} (hown : w.ownsRow base e 1 v n xs)
    {B : Nat} {A : Option Addr} {m c : Nat} {ws : List Nat} (hm : m = ws.length) (hr : Rd f w B A ws) (h63 : n + m ≤ maxLen) (hbytes : (n + m) * bytes ≤ 140737488355328) (hbase : base ≤ w.heap.size) :
    ∃ v' w', (Builtin.append_ #[t, t] ty #[v, .slice A m c]).run P w = .ok v' w' ∧ w'.ownsRow base e 1 v' (n + m) (xs ++ ws.map f) ∧ w.grownBy w' v.ownBlock ∧ (v'.ownBlock = v.ownBlock ∨ v'.ownBlock = some w.heap.size) := by
  subst hm
  by_cases h0 : ws = []
  · subst h0
    cases A with
    | none => exact ⟨v, w, app_nil base t ty e i 1 ht hi v n xs hown c, by simpa using hown, World.grownBy.refl w _, .inl rfl⟩
    | some ad =>
      obtain ⟨v', w', h1, h2, h3, _, h5⟩ := run_append_own_at (P := P) w base t ty e i z 1 bytes ht hi hz hsize hby hzs (by decide) v n xs hown ad 0 c [] (by simp) (by simp) (by simp) h63 hbytes hbase
      exact ⟨v', w', h1, by simpa using h2, h3, h5⟩
  · obtain ⟨ad, rfl, _, hc⟩ := hr (List.length_pos_iff.2 h0)
    obtain ⟨v', w', h1, h2, h3, _, h5⟩ := run_append_own_at (P := P) w base t ty e i z 1 bytes ht hi hz hsize hby hzs (by decide) v n xs hown ad ws.length c (ws.map f) (by simp) (fun j u hu => by
      rw [List.getElem?_map] at hu
      cases hj : ws[j]? with
      | none => rw [hj] at hu; cases hu
      | some x => rw [hj] at hu; injection hu with hu; rw [← hu]; exact hc j x hj) (by intro u hu; obtain ⟨x, _, rfl⟩ := List.mem_map.1 hu; exact hf x) h63 hbytes hbase
    exact ⟨v', w', h1, h2, h3, h5⟩
theorem wpList_app {f : Nat → Value} (hf : ∀ x, (f x).oneCell' = true) {ops : Array Oper} {rest : List Oper} {o : Oper} {a : Act} {Q : Exit → Act → World → Prop} (hgd : o.guard = none) (s x : Operand) (t : TypeId)
    (ho : o.op = .call { callee := .builtin .append, args := #[s, x], argTypes := #[t, t] }) (base : Nat) (e : TypeId) (i : TypeInfo) (z : Value) (bytes : Nat) (ht : P.underlying t = some (.slice e)) (hi : P.info? e = some i) (hz : i.zero = some z)
    (hsize : i.size = 1) (hby : i.bytes = bytes) (hzs : z.cells.size = 1) {v : Value} {n : Nat} {xs : List Value} (hs : a.eval s = v) (hown : w.ownsRow base e 1 v n xs)
    {B : Nat} {A : Option Addr} {m c : Nat} {ws : List Nat} (hx : a.eval x = .slice A m c) (hm : m = ws.length) (hr : Rd f w B A ws) (h63 : n + m ≤ maxLen) (hbytes : (n + m) * bytes ≤ 140737488355328) (hbase : base ≤ w.heap.size)
    (h : ∀ v' w', w'.ownsRow base e 1 v' (n + m) (xs ++ ws.map f) → w.grownBy w' v.ownBlock → (v'.ownBlock = v.ownBlock ∨ v'.ownBlock = some w.heap.size) → wpList P ops Q rest (a.put o.dst v') w') : wpList P ops Q (o :: rest) a w := by
  refine wpList_plain hgd fun K hK => ?_
  obtain ⟨v', w', h1, h2, h3, h4⟩ := app_run (P := P) hf base t o.type e i z bytes ht hi hz hsize hby hzs hown hm hr h63 hbytes hbase
  unfold Oper.wp execOp
  simp only [ho, resolve, invoke, builtin, Sem.run_bind, Sem.run_pure, Result.andThen_ok, List.map_toArray, List.map_cons, List.map_nil, hs, hx]
  rw [h1]
  exact hK _ _ (h v' w' h2 h3 h4)
end
/-- One digit of the quotient. -/
theorem rdiv_digit {n r x : Nat} (hr : r < n) (hx : x ≤ 9999) : (x + D4 * r) / n ≤ 9999 ∧ (x + D4 * r) - n * ((x + D4 * r) / n) < n ∧ n * ((x + D4 * r) / n) ≤ x + D4 * r := by
  have h0 : 0 < n := by omega
  have h1 : (x + D4 * r) / n < 10000 := by
    rw [Nat.div_lt_iff_lt_mul h0]
    have : D4 * (r + 1) ≤ 10000 * n := Nat.mul_le_mul (by decide) hr
    rw [Nat.mul_add, D4_eq] at this
    rw [D4_eq]; omega
  have h2 := Nat.div_add_mod (x + D4 * r) n
  have h3 := Nat.mod_lt (x + D4 * r) h0
  omega
theorem rdiv_step {n H r x M t r' : Nat} (hM : M = n * H + r) (ht : n * t + r' = x + D4 * r) : x + D4 * M = n * (t + D4 * H) + r' := by
  have e1 : n * (t + D4 * H) = n * t + D4 * (n * H) := by rw [Nat.mul_add, Nat.mul_left_comm]
  rw [hM, e1, Nat.mul_add]; omega
theorem rdiv_end {m n Q r : Nat} (hM : m = n * Q + r) (hr : r < n) : m / n = Q ∧ m % n = r := by
  exact (Nat.div_mod_unique (a := m) (b := n) (by omega)).2 ⟨by rw [hM, Nat.add_comm], hr⟩
theorem zeros_set {hi : List Nat} {i v : Nat} : (List.replicate (i + 1) 0 ++ hi).set i v = List.replicate i 0 ++ (v :: hi) := by
  rw [List.replicate_succ']
  rw [List.append_assoc, List.set_append_right _ _ (by simp)]
  simp
theorem val_drop_lt {m top : Nat} (h : top ≤ dq m) : val D4 ((digs D4 m).drop top) < D4 ^ (dq m - top) := by
  have := val_lt ((digs D4 m).drop top) (fun x hx => good4_digs m x (List.mem_of_mem_drop hx))
  rwa [List.length_drop] at this
/-- The bisection's step. -/
theorem bis_le {n s t : Nat} (h0 : 0 < n) : n * s ≤ t ↔ s ≤ t / n := by rw [Nat.mul_comm]; exact (Nat.le_div_iff_mul_le h0).symm
end Go.Proofs.YteahcbeohopdlaaDoor
end
