/- Statements of num: what the document tells of minus seven. No conditions. -/
import Derived.Test.YtlmfkeicmldcnaaDoorAz
import Derived.Test.YtlmfkeicmldcnaaDoorZgl
open Go.RowKit
set_option maxRecDepth 100000
namespace Go.Proofs.YtlmfkeicmldcnaaDoor
def m7 : Int := -7
def m4 : Int := -4
def p1 : Int := 1
def p2 : Int := 2
def m1 : Int := -1
theorem dl_small2 {m : Nat} (h : m ≤ 18446744073709551615) : dl m ≤ 2 := dl_le (k := 2) (by rw [show W32 ^ 2 = 18446744073709551616 from rfl]; omega)
theorem decZ_m7 : decZ m7 = [45, 55] := by
  have h : digs 10 7 = [7] := by rw [digs_pos (by omega) (by omega), show 7 / 10 = 0 from rfl, digs_zero]
  unfold decZ
  rw [if_pos (by decide)]
  unfold decL
  rw [if_neg (by decide), show m7.natAbs = 7 from rfl, h]
  rfl
theorem aw2_text {W : World} {A : Option Addr} {c : Nat} (h : ZA W (decide (m7 < 0)) A (dl m7.natAbs) c m7) : Calls Tryd.prog 44 #[.agg #[.bool (decide (m7 < 0)), .slice A (dl m7.natAbs) c]] W fun e w' => e = .returned (.string ⟨#[45, 55]⟩) ∧ Hid (Below W.heap.size W w') := by
  refine (ztext_h h).mono ?_
  rintro e w' ⟨t, rfl, ht, hb⟩
  refine ⟨?_, hb⟩
  have e1 : t = ⟨#[45, 55]⟩ := Go.WideShapes.bytes_inj (by rw [ht.out, decZ_m7])
  rw [e1]
set_option maxHeartbeats 4000000 in
/-- What the document tells of minus seven: it holds. -/
theorem awake2_any (W : World) : Calls Tryd.prog 37 #[] W (BoolR W true) := by
  have C7 : Hid (∀ W', Calls Tryd.prog 40 #[.int .i64 (-7)] W' (ZR W' m7)) := fun W' => zof_h (z := m7) (by decide) (by decide)
  have C2 : Hid (∀ W', Calls Tryd.prog 40 #[.int .i64 2] W' (ZR W' p2)) := fun W' => zof_h (z := p2) (by decide) (by decide)
  have C1 : Hid (∀ W', Calls Tryd.prog 40 #[.int .i64 (-1)] W' (ZR W' m1)) := fun W' => zof_h (z := m1) (by decide) (by decide)
  have CD : Hid (∀ W' A c A' c', ZA W' (decide (m7 < 0)) A (dl m7.natAbs) c m7 → ZA W' (decide (p2 < 0)) A' (dl p2.natAbs) c' p2 → Calls Tryd.prog 39 #[.agg #[.bool (decide (m7 < 0)), .slice A (dl m7.natAbs) c], .agg #[.bool (decide (p2 < 0)), .slice A' (dl p2.natAbs) c']] W' (ZDivR W' m4 p1)) := fun W' A c A' c' h h' => zdiv_h h h' (by decide) (Nat.le_trans (dl_small2 (by decide)) (by omega)) (by decide) (by decide)
  have CI4 : Hid (∀ W', Calls Tryd.prog 46 #[.int .i64 (-4)] W' (RZ W' m4)) := fun W' => zint_h (z := m4) (by decide) (by decide)
  have CI1 : Hid (∀ W', Calls Tryd.prog 46 #[.int .i64 1] W' (RZ W' p1)) := fun W' => zint_h (z := p1) (by decide) (by decide)
  have CZ4 : Hid (∀ W' A c A' c', ZA W' (decide (m4 < 0)) A (dl m4.natAbs) c m4 → Hid (RN W' W'.heap.size A' c' m4.natAbs) → Calls Tryd.prog 45 #[.agg #[.bool (decide (m4 < 0)), .slice A (dl m4.natAbs) c], .agg #[.bool (decide (m4 < 0)), .slice A' (dq m4.natAbs) c']] W' (BoolR W' true)) := fun W' A c A' c' h h' => zis_h h h' (Nat.lt_of_le_of_lt (dl_small2 (by decide)) (by omega))
  have CZ1 : Hid (∀ W' A c A' c', ZA W' (decide (p1 < 0)) A (dl p1.natAbs) c p1 → Hid (RN W' W'.heap.size A' c' p1.natAbs) → Calls Tryd.prog 45 #[.agg #[.bool (decide (p1 < 0)), .slice A (dl p1.natAbs) c], .agg #[.bool (decide (p1 < 0)), .slice A' (dq p1.natAbs) c']] W' (BoolR W' true)) := fun W' A c A' c' h h' => zis_h h h' (Nat.lt_of_le_of_lt (dl_small2 (by decide)) (by omega))
  have CS1 : Hid (∀ W' A c, ZA W' (decide (m1 < 0)) A (dl m1.natAbs) c m1 → Calls Tryd.prog 42 #[.agg #[.bool (decide (m1 < 0)), .slice A (dl m1.natAbs) c]] W' (IntPost W' (-1))) := fun W' A c h => sign_h h (by decide)
  have CT : Hid (∀ W' A c, ZA W' (decide (m7 < 0)) A (dl m7.natAbs) c m7 → Calls Tryd.prog 44 #[.agg #[.bool (decide (m7 < 0)), .slice A (dl m7.natAbs) c]] W' (fun e w' => e = .returned (.string ⟨#[45, 55]⟩) ∧ Hid (Below W'.heap.size W' w'))) := fun W' A c h => aw2_text h
  go_enter Tryd.func37, Tryd.ntmps37
  go_wp2_with (first | (go_at_call 40; (with_reducible refine (C7.out _).mono ?_); rintro e w1 ⟨A1, c1, rfl, z1, hbk⟩; have HW := hbk) | (go_at_call 40; (with_reducible refine (C2.out _).mono ?_); rintro e w2 ⟨A2, c2, rfl, z2, hbk⟩; replace HW := chain HW hbk.out; replace z1 := z1.up hbk) | (go_at_call 39; (with_reducible refine (CD.out _ _ _ _ _ z1 z2).mono ?_); rintro e w3 ⟨A3, c3, A4, c4, rfl, zq, zr, hbk⟩; replace HW := chain HW hbk.out) | fail)
  obtain ⟨W1, hW1⟩ : ∃ W1, W1 = (w3.alloc (.cells #[.bool (decide (m4 < 0)), .slice A3 (dl m4.natAbs) c3] 55)).alloc (.cells #[.bool (decide (p1 < 0)), .slice A4 (dl p1.natAbs) c4] 55) := ⟨_, rfl⟩
  rw [← hW1]
  obtain ⟨p, hp⟩ : ∃ p, p = w3.heap.size := ⟨_, rfl⟩
  have HQ : Hid (Zcell W1.drew p (decide (m4 < 0)) A3 (dl m4.natAbs) c3) := by rw [hW1, hp]; exact Zcell.dr ((zc_new _ _ _ _ _ _).al _)
  have HS : Hid (Zcell W1.drew (p + 1) (decide (p1 < 0)) A4 (dl p1.natAbs) c4) := by rw [hW1, hp]; exact Zcell.dr (zc_new1 _ _ _ _ _ _ _)
  replace HW : Hid (Below W.heap.size W W1.drew) := by rw [hW1]; exact Below.drew ((HW.out.alloc HW.out.size _).alloc (by have := HW.out.size; simp; omega) _)
  replace zq := ZA.dr ((zq.al (.cells #[.bool (decide (m4 < 0)), .slice A3 (dl m4.natAbs) c3] 55)).al (.cells #[.bool (decide (p1 < 0)), .slice A4 (dl p1.natAbs) c4] 55))
  replace zr := ZA.dr ((zr.al (.cells #[.bool (decide (m4 < 0)), .slice A3 (dl m4.natAbs) c3] 55)).al (.cells #[.bool (decide (p1 < 0)), .slice A4 (dl p1.natAbs) c4] 55))
  rw [← hW1] at zq zr
  simp only [← hp]
  clear hW1 hbk z1 z2 hp
  go_region_held3 (fun w' => w'.cell? ⟨p, 0, none⟩ = some (.bool (decide (m4 < 0))) ∧ w'.cell? ⟨p, 1, none⟩ = some (.slice A3 (dl m4.natAbs) c3) ∧ w'.cell? ⟨p + 1, 0, none⟩ = some (.bool (decide (p1 < 0))) ∧ w'.cell? ⟨p + 1, 1, none⟩ = some (.slice A4 (dl p1.natAbs) c4))
    (first | exact ⟨HQ.out.c0, HQ.out.c1, HS.out.c0, HS.out.c1⟩)
    (first | (go_at_call 46; (with_reducible refine (CI4.out _).mono ?_); rintro e w5 ⟨A5, c5, rfl, hr5, hbk⟩; replace HQ := hide (HQ.out.up hbk); replace HS := hide (HS.out.up hbk); replace zq := zq.up hbk; replace zr := zr.up hbk; replace HW := chain HW hbk.out) | (go_at_call 45; (with_reducible refine (CZ4.out _ _ _ _ _ zq hr5).mono ?_); rintro e w6 ⟨rfl, hbk⟩; replace HQ := hide (HQ.out.up hbk); replace HS := hide (HS.out.up hbk); replace zq := zq.up hbk; replace zr := zr.up hbk; replace HW := chain HW hbk.out) | (go_at_call 46; (with_reducible refine (CI1.out _).mono ?_); rintro e w7 ⟨A7, c7, rfl, hr7, hbk⟩; replace HQ := hide (HQ.out.up hbk); replace HS := hide (HS.out.up hbk); replace zq := zq.up hbk; replace zr := zr.up hbk; replace HW := chain HW hbk.out) | (go_at_call 45; (with_reducible refine (CZ1.out _ _ _ _ _ zr hr7).mono ?_); rintro e w8 ⟨rfl, hbk⟩; replace HQ := hide (HQ.out.up hbk); replace HS := hide (HS.out.up hbk); replace zq := zq.up hbk; replace zr := zr.up hbk; replace HW := chain HW hbk.out) | (go_at_call 40; (with_reducible refine (C7.out _).mono ?_); rintro e w9 ⟨A9, c9, rfl, z9, hbk⟩; replace HQ := hide (HQ.out.up hbk); replace HS := hide (HS.out.up hbk); replace zq := zq.up hbk; replace zr := zr.up hbk; replace HW := chain HW hbk.out) | (go_at_call 44; (with_reducible refine (CT.out _ _ _ z9).mono ?_); rintro e wa ⟨rfl, hbk⟩; replace HQ := hide (HQ.out.up hbk); replace HS := hide (HS.out.up hbk); replace zq := zq.up hbk; replace zr := zr.up hbk; replace HW := chain HW hbk.out) | (go_at_call 40; (with_reducible refine (C1.out _).mono ?_); rintro e wb ⟨Ab, cb, rfl, zb, hbk⟩; replace HQ := hide (HQ.out.up hbk); replace HS := hide (HS.out.up hbk); replace zq := zq.up hbk; replace zr := zr.up hbk; replace HW := chain HW hbk.out) | (go_at_call 42; (with_reducible refine (CS1.out _ _ _ zb).mono ?_); rintro e wc ⟨rfl, hbk⟩; replace HQ := hide (HQ.out.up hbk); replace HS := hide (HS.out.up hbk); replace zq := zq.up hbk; replace zr := zr.up hbk; replace HW := chain HW hbk.out) | fail)
  go_wp2
  go_ret
  exact ⟨rfl, HW⟩
/-- In every later world the sign and the slice tell z. -/
def ZLater (w : World) (b : Bool) (A : Option Addr) (n c : Nat) (z : Int) : Prop := ∀ W, Below w.heap.size w W → ZA W b A n c z
theorem long_h {W : World} {b : Bool} {A : Option Addr} {n c : Nat} (hn : n ≤ 24) : Calls Tryd.prog 49 #[.agg #[.bool b, .slice A n c]] W (BoolR W false) := by
  have hf : decide ((24 : Int) < (n : Int)) = false := decide_eq_false (by omega)
  clear hn
  go_enter Tryd.func49, Tryd.ntmps49
  go_wp2
  go_ret
  exact ⟨rfl, (Below.refl _ _).alloc (Nat.le_refl _) _⟩
theorem long_n {W : World} {b : Bool} {A : Option Addr} {n c : Nat} (hn : ¬ n ≤ 24) : Calls Tryd.prog 49 #[.agg #[.bool b, .slice A n c]] W (BoolR W true) := by
  have hf : decide ((24 : Int) < (n : Int)) = true := decide_eq_true (by omega)
  clear hn
  go_enter Tryd.func49, Tryd.ntmps49
  go_wp2
  go_ret
  exact ⟨rfl, (Below.refl _ _).alloc (Nat.le_refl _) _⟩
def SgnGe (W : World) (e : Ending) (w' : World) : Prop := (∃ s, 0 ≤ s ∧ e = .returned (.int .i64 s)) ∧ Hid (Below W.heap.size W w')
theorem sgn_ge {W : World} {b : Bool} {A : Option Addr} {n c : Nat} {z : Int} (h : ZA W b A n c z) (h0 : 0 ≤ z) : Calls Tryd.prog 42 #[.agg #[.bool b, .slice A n c]] W (SgnGe W) :=
  (sign_h h rfl).mono fun e w' ⟨he, hb⟩ => ⟨⟨_, by
    rcases Int.lt_or_eq_of_le h0 with h | h
    · rw [Int.sign_eq_one_of_pos h]; decide
    · rw [← h]; decide, he⟩, hb⟩
theorem dl_pow {m : Nat} (h : dl m ≤ 24) : m < W32 ^ 24 := Nat.lt_of_lt_of_le (lt_pow_digs (b := W32) (by decide) m) (Nat.pow_le_pow_right (by decide) h)
theorem Zcell.set2 {W : World} {p q : Nat} {s : Bool} {A : Option Addr} {n c : Nat} (h : Zcell W q s A n c) (hpq : p ≠ q) (x y : Value) : Zcell ((W.setCell ⟨p, 0, none⟩ x).setCell ⟨p, 1, none⟩ y) q s A n c :=
  ⟨far2 hpq h.c0, far2 hpq h.c1, by rw [World.frozen?_setCell, World.frozen?_setCell]; exact h.f0, by rw [World.frozen?_setCell, World.frozen?_setCell]; exact h.f1, by have := h.lt; simpa [World.setCell] using this⟩
theorem Zcell.put2 {W : World} {p : Nat} {s s' : Bool} {A A' : Option Addr} {n c n' c' : Nat} (h : Zcell W p s A n c) : Zcell ((W.setCell ⟨p, 0, none⟩ (.bool s')).setCell ⟨p, 1, none⟩ (.slice A' n' c')) p s' A' n' c' :=
  ⟨(set2b h).1, (set2b h).2, by rw [World.frozen?_setCell, World.frozen?_setCell]; exact h.f0, by rw [World.frozen?_setCell, World.frozen?_setCell]; exact h.f1, by have := h.lt; simpa [World.setCell] using this⟩
theorem ZA.set2 {W : World} {p : Nat} {s s' : Bool} {A A' : Option Addr} {n c n' c' : Nat} {z : Int} (h : ZA W s A n c z) (hp : Zcell W p s' A' n' c') (x y : Value) : ZA ((W.setCell ⟨p, 0, none⟩ x).setCell ⟨p, 1, none⟩ y) s A n c z := ⟨nm_z2 h.1 hp.c0 hp.c1, h.2⟩
theorem al3z (W : World) (o1 o2 o3 : Obj) : Below W.heap.size W (((W.alloc o1).alloc o2).alloc o3) := al3 W o1 o2 o3
end Go.Proofs.YtlmfkeicmldcnaaDoor
