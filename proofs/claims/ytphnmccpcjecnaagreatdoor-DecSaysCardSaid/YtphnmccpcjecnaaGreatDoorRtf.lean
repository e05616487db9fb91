/- The document's own numerals: DOf of a fraction in lowest terms. Conditions: terms of at most 2000 of its words. -/
import Derived.Test.YtphnmccpcjecnaaGreatDoorGDsbc25
import Derived.Test.YtphnmccpcjecnaaGreatDoorGDsbc28
import Derived.Deep.CutRange
open Go.RowKit
set_option maxRecDepth 100000
namespace Go.Proofs.YtphnmccpcjecnaaGreatDoor
theorem dq_lt {n : Nat} : n < D4 ^ dq n := lt_pow_digs (b := D4) (by decide) n
/-- A fraction in lowest terms times a power of ten. -/
theorem scale_facts {r : Rat} {k : Nat} : (mkRat (r.num * ((10 ^ k : Nat) : Int)) (r.den * 1)).den = r.den / Nat.gcd (r.num.natAbs * 10 ^ k) r.den ∧
    ((mkRat (r.num * ((10 ^ k : Nat) : Int)) (r.den * 1)).den = 1 ↔ r.den ∣ 10 ^ k) ∧
    (r.den ∣ 10 ^ k → (mkRat (r.num * ((10 ^ k : Nat) : Int)) (r.den * 1)).num.natAbs = r.num.natAbs * (10 ^ k / r.den)) ∧
    decide ((mkRat (r.num * ((10 ^ k : Nat) : Int)) (r.den * 1)).num < 0) = decide (r.num < 0) := by
  have hp : 0 < 10 ^ k := Nat.pow_pos (by decide)
  obtain ⟨g, hg⟩ : ∃ g, g = Nat.gcd (r.num * ((10 ^ k : Nat) : Int)).natAbs (r.den * 1) := ⟨_, rfl⟩
  obtain ⟨h0, h1, h2, h3, h4, h5⟩ := low_terms (by have := r.den_pos; omega : 0 < r.den * 1) hg
  have e1 : (r.num * ((10 ^ k : Nat) : Int)).natAbs = r.num.natAbs * 10 ^ k := by rw [Int.natAbs_mul, Int.natAbs_natCast]
  rw [e1, Nat.mul_one] at hg
  rw [h1, h2, h5, e1, Nat.mul_one, ← hg]
  have hgd : g ∣ r.den := by rw [hg]; exact Nat.gcd_dvd_right _ _
  have hco : Nat.Coprime r.den r.num.natAbs := r.reduced.symm
  have hd := r.den_pos
  have key : r.den ∣ 10 ^ k ↔ g = r.den := by
    constructor
    · intro h
      rw [hg]
      exact Nat.gcd_eq_right (Nat.dvd_trans h (Nat.dvd_mul_left _ _))
    · intro h
      have h6 : r.den ∣ r.num.natAbs * 10 ^ k := by rw [← h, hg]; exact Nat.gcd_dvd_left _ _
      exact hco.dvd_of_dvd_mul_left h6
  refine ⟨rfl, ?_, fun h => ?_, ?_⟩
  · rw [key]
    constructor
    · intro h
      obtain ⟨x, hx⟩ := hgd
      rw [hx, Nat.mul_div_cancel_left _ h0] at h
      rw [hx, h, Nat.mul_one]
    · intro h
      rw [← h]; exact Nat.div_self h0
  · rw [key.1 h]
    exact Nat.mul_div_assoc _ h
  · refine decide_eq_decide.2 ?_
    have h6 : (0 : Int) < ((10 ^ k : Nat) : Int) := by omega
    constructor
    · intro h
      exact Int.lt_of_not_ge fun h7 => absurd h (Int.not_lt.2 (Int.mul_nonneg h7 (Int.le_of_lt h6)))
    · intro h
      exact Int.mul_neg_of_neg_of_pos h h6
theorem one_txt : decL 1 = [49] := by decide +kernel
/-- A block of three cells: nothing stands behind them. -/
def Ez (W : World) (p : Nat) : Prop := p < W.heap.size ∧ W.cell? ⟨p, 3, none⟩ = none
theorem Ez.up {W W' : World} {p : Nat} (h : Ez W p) (hb : Hid (Below W.heap.size W W')) : Ez W' p := ⟨Nat.lt_of_lt_of_le h.1 hb.out.size, (hb.out.cell (p := ⟨p, 3, none⟩) h.1).trans h.2⟩
theorem Ez.al {W : World} {p : Nat} (h : Ez W p) (o : Obj) : Ez (W.alloc o) p := h.up ((Below.refl _ _).alloc (Nat.le_refl _) o)
theorem Ez.dr {W : World} {p : Nat} (h : Ez W p) : Ez W.drew p := h
theorem Ez.far3 {W : World} {p q : Nat} (h : Ez W p) (hq : q ≠ p) (x y z : Value) : Ez (((W.setCell ⟨q, 0, none⟩ x).setCell ⟨q, 1, none⟩ y).setCell ⟨q, 2, none⟩ z) p := by
  refine ⟨by simpa [World.setCell] using h.1, ?_⟩
  rw [World.cell?_setCell_other _ _ _ _ (fun e => hq (by injection e)), World.cell?_setCell_other _ _ _ _ (fun e => hq (by injection e)), World.cell?_setCell_other _ _ _ _ (fun e => hq (by injection e))]
  exact h.2
/-- What DOf leaves. -/
def DofP (W : World) (r : Rat) (lim : Nat) (e : Ending) (w' : World) : Prop :=
  (∃ j, j ≤ lim ∧ r.den ∣ 10 ^ j ∧ (∀ i, i < j → ¬ r.den ∣ 10 ^ i) ∧ ∃ A c, e = .returned (.tuple #[.agg #[.bool (decide (r.num < 0)), .slice A (dq (r.num.natAbs * (10 ^ j / r.den))) c, .int .i64 (j : Int)], .bool true]) ∧ Rn w' A c (r.num.natAbs * (10 ^ j / r.den)) ∧ Hid (Below W.heap.size W w')) ∨
  ((∀ i, i ≤ lim → ¬ r.den ∣ 10 ^ i) ∧ e = .returned (.tuple #[.agg #[.bool false, .slice none 0 0, .int .i64 0], .bool false]) ∧ Hid (Below W.heap.size W w'))
section
variable {W : World} {b : Bool} {A A' : Option Addr} {c c' lim : Nat} {r : Rat} {most : Int}
set_option maxHeartbeats 8000000 in
theorem rdof_h (h : Rz W b A c r.num) (h' : Rn W A' c' r.den) (hl : dq r.num.natAbs ≤ 2000) (hl' : dq r.den ≤ 2000) (hm : min (max most 0) 60 = (lim : Int)) :
    Calls Tryz.prog 12 #[.agg #[.bool b, .slice A (dq r.num.natAbs) c, .slice A' (dq r.den) c'], .int .i64 most] W (DofP W r lim) := by
  have CO : Hid (∀ W', Calls Tryz.prog 42 #[.int .u64 1] W' (RefPost W' 1)) := fun W' => Small_any (n := 1) (w := W') (by decide)
  have CT : Hid (∀ (k : Nat), k ≤ 60 → ∀ W', Calls Tryz.prog 53 #[.int .i64 (k : Int)] W' (RefPost W' (10 ^ k))) := fun k hk W' => rTen_any (by omega)
  have CX : Hid (∀ W' A c, ∀ m, dq m ≤ 5000 → Rn W' A c m → Calls Tryz.prog 54 #[.slice A (dq m) c] W' (TxR W' (decL m))) := fun W' A c m hd g => rText_any g (by omega)
  obtain ⟨n, hn⟩ : ∃ n, n = r.num.natAbs := ⟨_, rfl⟩
  obtain ⟨d, hd⟩ : ∃ d, d = r.den := ⟨_, rfl⟩
  have CM : Hid (∀ k, k ≤ 60 → ∃ (v u : Nat) (z : Int), (u = 1 ↔ r.den ∣ 10 ^ k) ∧ dq u ≤ 5000 ∧ z.natAbs = v ∧ (r.den ∣ 10 ^ k → v = r.num.natAbs * (10 ^ k / r.den)) ∧ ∀ W' B e B' e', Rz W' b A c r.num → Rn W' A' c' r.den → Rn W' B e (10 ^ k) → Rn W' B' e' 1 →
      Calls Tryz.prog 52 #[.agg #[.bool b, .slice A (dq n) c, .slice A' (dq d) c'], .agg #[.bool false, .slice B (dq (10 ^ k)) e, .slice B' (dq 1) e']] W' (fun e w' => ∃ A c A' c', e = .returned (.agg #[.bool (decide (r.num < 0)), .slice A (dq v) c, .slice A' (dq u) c']) ∧ Rn w' A c v ∧ Rn w' A' c' u ∧ Hid (Below W'.heap.size W' w'))) := fun k hk => by
    obtain ⟨f1, f2, f3, f4⟩ := scale_facts (r := r) (k := k)
    obtain ⟨x, hx⟩ : ∃ x, x = mkRat (r.num * ((10 ^ k : Nat) : Int)) (r.den * 1) := ⟨_, rfl⟩
    rw [← hx] at f1 f2 f3 f4
    have hten : dq (10 ^ k) ≤ 4000 := Nat.le_trans (dq_le (ten_lt k)) (by omega)
    have hle : x.den ≤ r.den := by rw [f1]; exact Nat.div_le_self _ _
    refine ⟨x.num.natAbs, x.den, x.num, f2, by have := dq_mono hle; omega, rfl, f3, fun W' B e B' e' g g' k1 k2 => ?_⟩
    have e1 : (((10 ^ k : Nat) : Int)).natAbs = 10 ^ k := Int.natAbs_natCast _
    have k1' : Rz W' false B e ((10 ^ k : Nat) : Int) := ⟨by rw [e1]; exact k1, by unfold Hid; rw [decide_eq_false (by omega)]⟩
    have q1 : dq (r.num * ((10 ^ k : Nat) : Int)).natAbs ≤ 99999 := by
      rw [Int.natAbs_mul, e1]
      obtain ⟨M, hM⟩ : ∃ M, M = 2000 := ⟨_, rfl⟩
      rw [← hM] at hl
      have h1 : r.num.natAbs * 10 ^ k < D4 ^ (M + 61) := by
        rw [Nat.pow_add]
        have h2 : r.num.natAbs < D4 ^ M := Nat.lt_of_lt_of_le dq_lt (Nat.pow_le_pow_right (by decide) hl)
        have h3 : 10 ^ k < D4 ^ 61 := Nat.lt_of_lt_of_le (ten_lt k) (Nat.pow_le_pow_right (by decide) (by omega))
        exact Nat.mul_lt_mul'' h2 h3
      exact Nat.le_trans (dq_le h1) (by omega)
    have h2 := rqmul_h (r := x) g g' k1' k2 r.den_pos (by decide) (by omega) (by omega) (by rw [e1]; exact hten) (by decide +kernel) q1 (by rw [Nat.mul_one]; omega) hx.symm
    rw [e1] at h2
    rw [hn, hd, ← f4]
    exact h2.mono fun _ _ ⟨A, c, A', c', he, n1, n2, hb⟩ => ⟨A, c, A', c', he, n1.1, n2, hb⟩
  have HN1 := hide hn
  have HN2 := hide hd
  have hlim : lim ≤ 60 := by omega
  have HM := hide hm
  have HB := Bel.refl W
  rw [← hn, ← hd]
  clear hl hl' hn hd hm
  go_enter Tryz.func12, Tryz.ntmps12
  obtain ⟨m1, hm1⟩ : ∃ m1, m1 = max most 0 := ⟨_, rfl⟩
  have HM1 := hide hm1
  rw [← hm1] at HM
  clear hm1
  go_upto_if 9 with fail
  go_cut [1] from 8 to 9 (fun m w' => m = .int .i64 m1 ∧ w' = (W.alloc (.cells #[.bool b, .slice A (dq n) c, .slice A' (dq d) c'] 51)).alloc (.cells #[.bool false, .slice none 0 0, .int .i64 0] 39))
  case first =>
    have hm1 := HM1.out
    by_cases h1 : most < 0
    · have d1 : decide (most < 0) = true := decide_eq_true h1
      have e0 : m1 = 0 := by omega
      clear hm1
      go_wp2_with fail
      go_meet
      case rel => exact ⟨by rw [e0], rfl⟩
    · have d1 : decide (most < 0) = false := decide_eq_false h1
      have e0 : m1 = most := by omega
      clear hm1
      go_wp2_with fail
      go_meet
      case rel => exact ⟨by rw [e0], rfl⟩
  case rest =>
    obtain ⟨rfl, hw⟩ := hcut
    rw [hw]
    go_upto_if 11 with fail
    go_cut [1] from 10 to 11 (fun m w' => m = .int .i64 (lim : Int) ∧ w' = (W.alloc (.cells #[.bool b, .slice A (dq n) c, .slice A' (dq d) c'] 51)).alloc (.cells #[.bool false, .slice none 0 0, .int .i64 0] 39))
    case first =>
      have hm := HM.out
      by_cases h2 : 60 < m1
      · have d2 : decide (60 < m1) = true := decide_eq_true h2
        have e0 : (lim : Int) = 60 := by omega
        clear hm
        go_wp2_with fail
        go_meet
        case rel => exact ⟨by rw [e0], rfl⟩
      · have d2 : decide (60 < m1) = false := decide_eq_false h2
        have e0 : (lim : Int) = m1 := by omega
        clear hm
        go_wp2_with fail
        go_meet
        case rel => exact ⟨by rw [e0], rfl⟩
    case rest =>
      obtain ⟨rfl, hw2⟩ := hcut
      rw [hw2]
      clear hw hw2
      obtain ⟨W1, hW1⟩ : ∃ X, X = (W.alloc (.cells #[.bool b, .slice A (dq n) c, .slice A' (dq d) c'] 51)).alloc (.cells #[.bool false, .slice none 0 0, .int .i64 0] 39) := ⟨_, rfl⟩
      rw [← hW1]
      have HP : At W1 W.heap.size [.bool b, .slice A (dq n) c, .slice A' (dq d) c'] := by rw [hW1]; exact (at_new0 _ _ _).al _
      have HR : At W1 (W.heap.size + 1) [.bool false, .slice none 0 0, .int .i64 0] := by rw [hW1]; exact at_new1 _ _ _ _
      have HZ : W1.cell? ⟨W.heap.size + 1, 3, none⟩ = none := by
        rw [hW1]; have h9 := end_new (W.alloc (.cells #[.bool b, .slice A (dq n) c, .slice A' (dq d) c'] 51)) (.bool false) (.slice none 0 0) (.int .i64 0) 39
        rwa [show (W.alloc (.cells #[.bool b, .slice A (dq n) c, .slice A' (dq d) c'] 51)).heap.size = W.heap.size + 1 by simp] at h9
      replace HB : Bel W W1 := by rw [hW1]; exact (HB.al _).al _
      replace h : Rz W1 b A c r.num := by rw [hW1]; exact (h.al _).al _
      replace h' : Rn W1 A' c' r.den := by rw [hW1]; exact (h'.al _).al _
      clear hW1
      go_wp2_with fail
      replace HZ : Ez W1 (W.heap.size + 1) := ⟨HR.lt, HZ⟩
      obtain ⟨p, hp⟩ : ∃ p, p = W.heap.size := ⟨_, rfl⟩
      have HPS := hide hp
      rw [← hp] at HP HR HZ ⊢
      clear hp
      go_loopw [6] (fun kv wr => ∃ k : Nat, k ≤ lim + 1 ∧ kv = .int .i64 (k : Int) ∧ Hid (∀ i, i < k → ¬ r.den ∣ 10 ^ i) ∧ Hid (Bel W1 wr)) (fun kv _ => lim + 1 - (intOf kv).toNat)
      case atStart => exact ⟨0, Nat.zero_le _, rfl, fun i hi => absurd hi (Nat.not_lt_zero _), Bel.refl _⟩
      case round =>
        obtain ⟨k, hk, rfl, hno, HW⟩ := hrel
        have w1' : IntKind.i64.wrap ((k : Int) + 1) = (k : Int) + 1 := IntWalk.i64_in _ (by omega)
        replace HZ := HZ.up (Bel.hid HW)
        have HW1 := Bel.of (Bel.hid HW)
        have HWS : Hid (W1.heap.size ≤ wr.heap.size) := (Bel.hid HW).out.size
        replace HP := HP.up (Bel.hid HW)
        replace HR := HR.up (Bel.hid HW)
        replace h := h.up (Bel.hid HW)
        replace h' := h'.up (Bel.hid HW)
        replace HB := HB.up (Bel.hid HW)
        by_cases hlt : k ≤ lim
        · have dl : decide ((k : Int) ≤ (lim : Int)) = true := decide_eq_true (by omega)
          have dl2 : decide (k ≤ lim) = true := decide_eq_true hlt
          obtain ⟨v, u, z, hu1, hu2, _, hv, CMk⟩ := CM.out k (by omega)
          obtain ⟨sg, hsg⟩ : ∃ x, x = decide (r.num < 0) := ⟨_, rfl⟩
          rw [← hsg] at CMk
          have HSG := hide hsg
          have HU1 := hide hu1
          have HV := hide hv
          have HCM := hide CMk
          obtain ⟨tn, htn⟩ : ∃ x, x = 10 ^ k := ⟨_, rfl⟩
          have CTk : Hid (∀ W', Calls Tryz.prog 53 #[.int .i64 (k : Int)] W' (RefPost W' tn)) := fun W' => by rw [htn]; exact CT.out k (by omega) W'
          rw [← htn] at HCM
          have HTN := hide htn
          clear hsg hu1 hv CMk htn
          have l0 := HP.lt
          have l1 := HR.lt
          have HRL := hide HR.lt
          go_wp2_with fail
          go_region_held3 (fun w' => w'.cell? ⟨p, 0, none⟩ = some (.bool b) ∧ w'.cell? ⟨p, 1, none⟩ = some (.slice A (dq n) c) ∧ w'.cell? ⟨p, 2, none⟩ = some (.slice A' (dq d) c'))
            (refine ⟨(?_ : At _ p [.bool b, .slice A (dq n) c, .slice A' (dq d) c']).c0, (?_ : At _ p [.bool b, .slice A (dq n) c, .slice A' (dq d) c']).c1, (?_ : At _ p [.bool b, .slice A (dq n) c, .slice A' (dq d) c']).c2⟩ <;> (repeat (first | with_reducible exact HP | (with_reducible refine At.dr ?_) | (with_reducible refine At.al ?_ _) | (with_reducible refine At.far3 ?_ (by omega) _ _ _) | (with_reducible refine At.far ?_ (by omega) _))))
            (first | (go_at_call 53; (with_reducible refine (CTk.out _).mono ?_); rintro e w3 ⟨B1, d1, rfl, n1, hbk⟩; (with_reducible (replace HB := HB.dr.up hbk; replace HP := HP.dr.up hbk; replace HR := HR.dr.up hbk; replace HZ := HZ.dr.up hbk; replace HW1 := HW1.dr.up hbk; replace h := h.dr.up hbk; replace h' := h'.dr.up hbk)); replace n1 := Rn.of n1; have lw3 := HR.lt; have sw3 := (Bel.hid HW1).out.size; (try have lx := HX0.lt)) | (go_at_call 53; (with_reducible refine (CTk.out _).mono ?_); rintro e w3 ⟨B1, d1, rfl, n1, hbk⟩; (with_reducible (have HX0 := At.up (at_new0 _ [.bool false, .slice none 0 0, .slice none 0 0] _).dr hbk; replace HB := (HB.al _).dr.up hbk; replace HP := (HP.al _).dr.up hbk; replace HR := (HR.al _).dr.up hbk; replace HZ := (HZ.al _).dr.up hbk; replace HW1 := (HW1.al _).dr.up hbk; replace h := (h.al _).dr.up hbk; replace h' := (h'.al _).dr.up hbk)); replace n1 := Rn.of n1; have lw3 := HR.lt; have sw3 := (Bel.hid HW1).out.size; (try have lx := HX0.lt)) | (go_at_call 42; (with_reducible refine (CO.out _).mono ?_); rintro e w4 ⟨B2, d2, rfl, n2, hbk⟩; (with_reducible (replace HB := HB.up hbk; replace HP := HP.up hbk; replace HR := HR.up hbk; replace HZ := HZ.up hbk; replace HW1 := HW1.up hbk; replace h := h.up hbk; replace h' := h'.up hbk; replace n1 := n1.up hbk)); (try (with_reducible replace HX0 := HX0.up hbk)); replace n2 := Rn.of n2; have lw4 := HR.lt; have sw4 := (Bel.hid HW1).out.size; (try have lx := HX0.lt)) | (go_at_call 42; (with_reducible refine (CO.out _).mono ?_); rintro e w4 ⟨B2, d2, rfl, n2, hbk⟩; (with_reducible (have HX0 := At.up (at_new0 _ [.bool false, .slice none 0 0, .slice none 0 0] _) hbk; replace HB := (HB.al _).up hbk; replace HP := (HP.al _).up hbk; replace HR := (HR.al _).up hbk; replace HZ := (HZ.al _).up hbk; replace HW1 := (HW1.al _).up hbk; replace h := (h.al _).up hbk; replace h' := (h'.al _).up hbk; replace n1 := (n1.al _).up hbk)); (try (with_reducible replace HX0 := (HX0.al _).up hbk)); replace n2 := Rn.of n2; have lw4 := HR.lt; have sw4 := (Bel.hid HW1).out.size; (try have lx := HX0.lt)) | (go_at_call 52; (with_reducible refine (HCM.out _ _ _ _ _ h h' n1 n2).mono ?_); rintro e w5 ⟨X, x, Y, y, rfl, nx, ny, hbk⟩; (with_reducible (replace HB := HB.up hbk; replace HP := HP.up hbk; replace HR := HR.up hbk; replace HZ := HZ.up hbk; replace HW1 := HW1.up hbk)); (try (with_reducible replace HX0 := HX0.up hbk)); have lw5 := HR.lt; (try have lx := HX0.lt); (try have hx_f0 := HX0.f0); (try have hx_f1 := HX0.f1); (try have hx_f2 := HX0.f2); (try have hx_0 := HX0.c0); (try have hx_1 := HX0.c1); (try have hx_2 := HX0.c2)) | (go_at_call 52; (with_reducible refine (HCM.out _ _ _ _ _ (h.al _) (h'.al _) (n1.al _) (n2.al _)).mono ?_); rintro e w5 ⟨X, x, Y, y, rfl, nx, ny, hbk⟩; (with_reducible (have HX0 := At.up (at_new0 _ [.bool false, .slice none 0 0, .slice none 0 0] _) hbk; replace HB := (HB.al _).up hbk; replace HP := (HP.al _).up hbk; replace HR := (HR.al _).up hbk; replace HZ := (HZ.al _).up hbk; replace HW1 := (HW1.al _).up hbk)); (try (with_reducible replace HX0 := (HX0.al _).up hbk)); have lw5 := HR.lt; (try have lx := HX0.lt); (try have hx_f0 := HX0.f0); (try have hx_f1 := HX0.f1); (try have hx_f2 := HX0.f2); (try have hx_0 := HX0.c0); (try have hx_1 := HX0.c1); (try have hx_2 := HX0.c2)) | fail)
          · generalize hW7 : w5.alloc (.cells #[.bool sg, .slice X (dq v) x, .slice Y (dq u) y] 51) = W7
            have hps := HPS.out
            have HX : At W7 (w5.heap.size) [.bool sg, .slice X (dq v) x, .slice Y (dq u) y] := by rw [← hW7]; exact at_new0 _ _ _
            replace HB : Bel W W7 := by rw [← hW7]; exact HB.al _
            replace HW1 : Bel W1 W7 := by rw [← hW7]; exact HW1.al _
            replace HR : At W7 (p + 1) [.bool false, .slice none 0 0, .int .i64 0] := by rw [← hW7]; exact HR.al _
            replace HZ : Ez W7 (p + 1) := by rw [← hW7]; exact HZ.al _
            replace nx : Rn W7 X x v := by rw [← hW7]; exact nx.al _
            replace ny : Rn W7 Y y u := by rw [← hW7]; exact ny.al _
            have hxr : w5.heap.size ≠ p + 1 := by omega
            obtain ⟨q, hq⟩ : ∃ q, w5.heap.size = q := ⟨_, rfl⟩
            rw [hq] at HX hxr ⊢
            clear hW7 hq hps HP h h'
            have hx_0 := HX.c0
            have hx_1 := HX.c1
            have hx_2 := HX.c2
            have hx_l := HX.lt
            by_cases hu1 : u = 1
            · have hdv := HU1.out.1 hu1
              have HU2 := hide hu1
              have HVE := hide (HV.out hdv)
              have HD := hide hdv
              clear hdv hu1
              go_wp2_with (first | (go_at_call 54; (with_reducible refine (CX.out _ _ _ _ hu2 ny).mono ?_); rintro e w6 ⟨t, rfl, ht, hbk⟩; have et : (t.toList == [49]) = true := (by rw [toList_data, ht.out, HU2.out, one_txt]; rfl); replace HX := HX.up hbk; replace HR := HR.up hbk; replace HZ := HZ.up hbk; replace HB := HB.up hbk; replace nx := nx.up hbk; have hx_0 := HX.c0; have hx_1 := HX.c1; have hx_2 := HX.c2; have hx_l := HX.lt; have hr_0 := HR.c0; have hr_1 := HR.c1; have hr_2 := HR.c2; have hr_l := HR.lt; have hr_f0 := HR.f0; have hr_f1 := HR.f1; have hr_f2 := HR.f2) | fail)
              refine bodyPost_ret (v := .tuple #[.agg #[.bool sg, .slice X (dq v) x, .int .i64 (k : Int)], .bool true]) (by simp [results, Tryz.results12, go_sem, hr_0, hr_1, hr_2]) rfl ?_
              refine .inl ⟨k, hlt, HD.out, hno.out, X, x, by rw [← HVE.out, ← HSG.out], ?_, below3 HB (by have := HPS.out; omega) _ _ _⟩
              rw [← HVE.out]
              have r0 := RN.setn nx hr_0 (by intro x h; cases h) (.bool sg)
              have r1 := RN.setn r0 ((World.cell?_setCell_other _ _ _ _ (by intro e; cases e)).trans hr_1) (by intro x h; cases h) (.slice X (dq v) x)
              have r2 := RN.setZ r1 ((World.cell?_setCell_other _ _ _ _ (by intro e; cases e)).trans ((World.cell?_setCell_other _ _ _ _ (by intro e; cases e)).trans hr_2)) ((World.cell?_setCell_other _ _ _ _ (by intro e; cases e)).trans ((World.cell?_setCell_other _ _ _ _ (by intro e; cases e)).trans HZ.2)) (.int .i64 (k : Int))
              unfold Rn
              refine RN.more r2 ?_
              simp [World.setCell]
            · have HND : Hid (¬ r.den ∣ 10 ^ k) := fun h9 => hu1 (HU1.out.2 h9)
              go_wp2_with (first | (go_at_call 54; (with_reducible refine (CX.out _ _ _ _ hu2 ny).mono ?_); rintro e w6 ⟨t, rfl, ht, hbk⟩; have et : (t.toList == [49]) = false := decL_no1 hu1 ht.out; replace HW1 := HW1.up hbk) | fail)
              go_roundw
              case rel =>
                exact ⟨k + 1, by omega, by go_num, fun i hi => (by rcases Nat.lt_or_eq_of_le (Nat.le_of_lt_succ hi) with g | g; (· exact hno.out i g); (· rw [g]; exact HND.out)), HW1⟩
              case measure => simp [intOf]; omega
          · generalize hW7 : ((w5.setCell ⟨w4.heap.size, 0, none⟩ (.bool sg)).setCell ⟨w4.heap.size, 1, none⟩ (.slice X (dq v) x)).setCell ⟨w4.heap.size, 2, none⟩ (.slice Y (dq u) y) = W7
            have hps := HPS.out
            have HX : At W7 (w4.heap.size) [.bool sg, .slice X (dq v) x, .slice Y (dq u) y] := by rw [← hW7]; exact HX0.put3 _ _ _
            replace HB : Bel W W7 := by rw [← hW7]; exact below3 HB (by omega) _ _ _
            replace HW1 : Bel W1 W7 := by rw [← hW7]; exact below3 HW1 (by have := HWS.out; omega) _ _ _
            replace HR : At W7 (p + 1) [.bool false, .slice none 0 0, .int .i64 0] := by rw [← hW7]; exact HR.far3 (by omega) _ _ _
            replace HZ : Ez W7 (p + 1) := by rw [← hW7]; exact HZ.far3 (by omega) _ _ _
            replace nx : Rn W7 X x v := by rw [← hW7]; exact nx.put3 HX0
            replace ny : Rn W7 Y y u := by rw [← hW7]; exact ny.put3 HX0
            have hxr : w4.heap.size ≠ p + 1 := by omega
            obtain ⟨q, hq⟩ : ∃ q, w4.heap.size = q := ⟨_, rfl⟩
            rw [hq] at HX hxr ⊢
            clear hW7 hq hps HP h h'
            have hx_0 := HX.c0
            have hx_1 := HX.c1
            have hx_2 := HX.c2
            have hx_l := HX.lt
            by_cases hu1 : u = 1
            · have hdv := HU1.out.1 hu1
              have HU2 := hide hu1
              have HVE := hide (HV.out hdv)
              have HD := hide hdv
              clear hdv hu1
              go_wp2_with (first | (go_at_call 54; (with_reducible refine (CX.out _ _ _ _ hu2 ny).mono ?_); rintro e w6 ⟨t, rfl, ht, hbk⟩; have et : (t.toList == [49]) = true := (by rw [toList_data, ht.out, HU2.out, one_txt]; rfl); replace HX := HX.up hbk; replace HR := HR.up hbk; replace HZ := HZ.up hbk; replace HB := HB.up hbk; replace nx := nx.up hbk; have hx_0 := HX.c0; have hx_1 := HX.c1; have hx_2 := HX.c2; have hx_l := HX.lt; have hr_0 := HR.c0; have hr_1 := HR.c1; have hr_2 := HR.c2; have hr_l := HR.lt; have hr_f0 := HR.f0; have hr_f1 := HR.f1; have hr_f2 := HR.f2) | fail)
              refine bodyPost_ret (v := .tuple #[.agg #[.bool sg, .slice X (dq v) x, .int .i64 (k : Int)], .bool true]) (by simp [results, Tryz.results12, go_sem, hr_0, hr_1, hr_2]) rfl ?_
              refine .inl ⟨k, hlt, HD.out, hno.out, X, x, by rw [← HVE.out, ← HSG.out], ?_, below3 HB (by have := HPS.out; omega) _ _ _⟩
              rw [← HVE.out]
              have r0 := RN.setn nx hr_0 (by intro x h; cases h) (.bool sg)
              have r1 := RN.setn r0 ((World.cell?_setCell_other _ _ _ _ (by intro e; cases e)).trans hr_1) (by intro x h; cases h) (.slice X (dq v) x)
              have r2 := RN.setZ r1 ((World.cell?_setCell_other _ _ _ _ (by intro e; cases e)).trans ((World.cell?_setCell_other _ _ _ _ (by intro e; cases e)).trans hr_2)) ((World.cell?_setCell_other _ _ _ _ (by intro e; cases e)).trans ((World.cell?_setCell_other _ _ _ _ (by intro e; cases e)).trans HZ.2)) (.int .i64 (k : Int))
              unfold Rn
              refine RN.more r2 ?_
              simp [World.setCell]
            · have HND : Hid (¬ r.den ∣ 10 ^ k) := fun h9 => hu1 (HU1.out.2 h9)
              go_wp2_with (first | (go_at_call 54; (with_reducible refine (CX.out _ _ _ _ hu2 ny).mono ?_); rintro e w6 ⟨t, rfl, ht, hbk⟩; have et : (t.toList == [49]) = false := decL_no1 hu1 ht.out; replace HW1 := HW1.up hbk) | fail)
              go_roundw
              case rel =>
                exact ⟨k + 1, by omega, by go_num, fun i hi => (by rcases Nat.lt_or_eq_of_le (Nat.le_of_lt_succ hi) with g | g; (· exact hno.out i g); (· rw [g]; exact HND.out)), HW1⟩
              case measure => simp [intOf]; omega
          · generalize hW7 : ((w5.setCell ⟨w3.heap.size, 0, none⟩ (.bool sg)).setCell ⟨w3.heap.size, 1, none⟩ (.slice X (dq v) x)).setCell ⟨w3.heap.size, 2, none⟩ (.slice Y (dq u) y) = W7
            have hps := HPS.out
            have HX : At W7 (w3.heap.size) [.bool sg, .slice X (dq v) x, .slice Y (dq u) y] := by rw [← hW7]; exact HX0.put3 _ _ _
            replace HB : Bel W W7 := by rw [← hW7]; exact below3 HB (by omega) _ _ _
            replace HW1 : Bel W1 W7 := by rw [← hW7]; exact below3 HW1 (by have := HWS.out; omega) _ _ _
            replace HR : At W7 (p + 1) [.bool false, .slice none 0 0, .int .i64 0] := by rw [← hW7]; exact HR.far3 (by omega) _ _ _
            replace HZ : Ez W7 (p + 1) := by rw [← hW7]; exact HZ.far3 (by omega) _ _ _
            replace nx : Rn W7 X x v := by rw [← hW7]; exact nx.put3 HX0
            replace ny : Rn W7 Y y u := by rw [← hW7]; exact ny.put3 HX0
            have hxr : w3.heap.size ≠ p + 1 := by omega
            obtain ⟨q, hq⟩ : ∃ q, w3.heap.size = q := ⟨_, rfl⟩
            rw [hq] at HX hxr ⊢
            clear hW7 hq hps HP h h'
            have hx_0 := HX.c0
            have hx_1 := HX.c1
            have hx_2 := HX.c2
            have hx_l := HX.lt
            by_cases hu1 : u = 1
            · have hdv := HU1.out.1 hu1
              have HU2 := hide hu1
              have HVE := hide (HV.out hdv)
              have HD := hide hdv
              clear hdv hu1
              go_wp2_with (first | (go_at_call 54; (with_reducible refine (CX.out _ _ _ _ hu2 ny).mono ?_); rintro e w6 ⟨t, rfl, ht, hbk⟩; have et : (t.toList == [49]) = true := (by rw [toList_data, ht.out, HU2.out, one_txt]; rfl); replace HX := HX.up hbk; replace HR := HR.up hbk; replace HZ := HZ.up hbk; replace HB := HB.up hbk; replace nx := nx.up hbk; have hx_0 := HX.c0; have hx_1 := HX.c1; have hx_2 := HX.c2; have hx_l := HX.lt; have hr_0 := HR.c0; have hr_1 := HR.c1; have hr_2 := HR.c2; have hr_l := HR.lt; have hr_f0 := HR.f0; have hr_f1 := HR.f1; have hr_f2 := HR.f2) | fail)
              refine bodyPost_ret (v := .tuple #[.agg #[.bool sg, .slice X (dq v) x, .int .i64 (k : Int)], .bool true]) (by simp [results, Tryz.results12, go_sem, hr_0, hr_1, hr_2]) rfl ?_
              refine .inl ⟨k, hlt, HD.out, hno.out, X, x, by rw [← HVE.out, ← HSG.out], ?_, below3 HB (by have := HPS.out; omega) _ _ _⟩
              rw [← HVE.out]
              have r0 := RN.setn nx hr_0 (by intro x h; cases h) (.bool sg)
              have r1 := RN.setn r0 ((World.cell?_setCell_other _ _ _ _ (by intro e; cases e)).trans hr_1) (by intro x h; cases h) (.slice X (dq v) x)
              have r2 := RN.setZ r1 ((World.cell?_setCell_other _ _ _ _ (by intro e; cases e)).trans ((World.cell?_setCell_other _ _ _ _ (by intro e; cases e)).trans hr_2)) ((World.cell?_setCell_other _ _ _ _ (by intro e; cases e)).trans ((World.cell?_setCell_other _ _ _ _ (by intro e; cases e)).trans HZ.2)) (.int .i64 (k : Int))
              unfold Rn
              refine RN.more r2 ?_
              simp [World.setCell]
            · have HND : Hid (¬ r.den ∣ 10 ^ k) := fun h9 => hu1 (HU1.out.2 h9)
              go_wp2_with (first | (go_at_call 54; (with_reducible refine (CX.out _ _ _ _ hu2 ny).mono ?_); rintro e w6 ⟨t, rfl, ht, hbk⟩; have et : (t.toList == [49]) = false := decL_no1 hu1 ht.out; replace HW1 := HW1.up hbk) | fail)
              go_roundw
              case rel =>
                exact ⟨k + 1, by omega, by go_num, fun i hi => (by rcases Nat.lt_or_eq_of_le (Nat.le_of_lt_succ hi) with g | g; (· exact hno.out i g); (· rw [g]; exact HND.out)), HW1⟩
              case measure => simp [intOf]; omega
          · generalize hW7 : ((w5.setCell ⟨wr.heap.size, 0, none⟩ (.bool sg)).setCell ⟨wr.heap.size, 1, none⟩ (.slice X (dq v) x)).setCell ⟨wr.heap.size, 2, none⟩ (.slice Y (dq u) y) = W7
            have hps := HPS.out
            have HX : At W7 (wr.heap.size) [.bool sg, .slice X (dq v) x, .slice Y (dq u) y] := by rw [← hW7]; exact HX0.put3 _ _ _
            replace HB : Bel W W7 := by rw [← hW7]; exact below3 HB (by omega) _ _ _
            replace HW1 : Bel W1 W7 := by rw [← hW7]; exact below3 HW1 (by have := HWS.out; omega) _ _ _
            replace HR : At W7 (p + 1) [.bool false, .slice none 0 0, .int .i64 0] := by rw [← hW7]; exact HR.far3 (by omega) _ _ _
            replace HZ : Ez W7 (p + 1) := by rw [← hW7]; exact HZ.far3 (by omega) _ _ _
            replace nx : Rn W7 X x v := by rw [← hW7]; exact nx.put3 HX0
            replace ny : Rn W7 Y y u := by rw [← hW7]; exact ny.put3 HX0
            have hxr : wr.heap.size ≠ p + 1 := by omega
            obtain ⟨q, hq⟩ : ∃ q, wr.heap.size = q := ⟨_, rfl⟩
            rw [hq] at HX hxr ⊢
            clear hW7 hq hps HP h h'
            have hx_0 := HX.c0
            have hx_1 := HX.c1
            have hx_2 := HX.c2
            have hx_l := HX.lt
            by_cases hu1 : u = 1
            · have hdv := HU1.out.1 hu1
              have HU2 := hide hu1
              have HVE := hide (HV.out hdv)
              have HD := hide hdv
              clear hdv hu1
              go_wp2_with (first | (go_at_call 54; (with_reducible refine (CX.out _ _ _ _ hu2 ny).mono ?_); rintro e w6 ⟨t, rfl, ht, hbk⟩; have et : (t.toList == [49]) = true := (by rw [toList_data, ht.out, HU2.out, one_txt]; rfl); replace HX := HX.up hbk; replace HR := HR.up hbk; replace HZ := HZ.up hbk; replace HB := HB.up hbk; replace nx := nx.up hbk; have hx_0 := HX.c0; have hx_1 := HX.c1; have hx_2 := HX.c2; have hx_l := HX.lt; have hr_0 := HR.c0; have hr_1 := HR.c1; have hr_2 := HR.c2; have hr_l := HR.lt; have hr_f0 := HR.f0; have hr_f1 := HR.f1; have hr_f2 := HR.f2) | fail)
              refine bodyPost_ret (v := .tuple #[.agg #[.bool sg, .slice X (dq v) x, .int .i64 (k : Int)], .bool true]) (by simp [results, Tryz.results12, go_sem, hr_0, hr_1, hr_2]) rfl ?_
              refine .inl ⟨k, hlt, HD.out, hno.out, X, x, by rw [← HVE.out, ← HSG.out], ?_, below3 HB (by have := HPS.out; omega) _ _ _⟩
              rw [← HVE.out]
              have r0 := RN.setn nx hr_0 (by intro x h; cases h) (.bool sg)
              have r1 := RN.setn r0 ((World.cell?_setCell_other _ _ _ _ (by intro e; cases e)).trans hr_1) (by intro x h; cases h) (.slice X (dq v) x)
              have r2 := RN.setZ r1 ((World.cell?_setCell_other _ _ _ _ (by intro e; cases e)).trans ((World.cell?_setCell_other _ _ _ _ (by intro e; cases e)).trans hr_2)) ((World.cell?_setCell_other _ _ _ _ (by intro e; cases e)).trans ((World.cell?_setCell_other _ _ _ _ (by intro e; cases e)).trans HZ.2)) (.int .i64 (k : Int))
              unfold Rn
              refine RN.more r2 ?_
              simp [World.setCell]
            · have HND : Hid (¬ r.den ∣ 10 ^ k) := fun h9 => hu1 (HU1.out.2 h9)
              go_wp2_with (first | (go_at_call 54; (with_reducible refine (CX.out _ _ _ _ hu2 ny).mono ?_); rintro e w6 ⟨t, rfl, ht, hbk⟩; have et : (t.toList == [49]) = false := decL_no1 hu1 ht.out; replace HW1 := HW1.up hbk) | fail)
              go_roundw
              case rel =>
                exact ⟨k + 1, by omega, by go_num, fun i hi => (by rcases Nat.lt_or_eq_of_le (Nat.le_of_lt_succ hi) with g | g; (· exact hno.out i g); (· rw [g]; exact HND.out)), HW1⟩
              case measure => simp [intOf]; omega
        · have dl : decide ((k : Int) ≤ (lim : Int)) = false := decide_eq_false (by omega)
          have dl2 : decide (k ≤ lim) = false := decide_eq_false hlt
          have HE : Hid (∀ i, i ≤ lim → ¬ r.den ∣ 10 ^ i) := fun i hi => hno.out i (by omega)
          have hr_0 := HR.c0
          have hr_1 := HR.c1
          have hr_2 := HR.c2
          have hr_l := HR.lt
          have hr_f0 := HR.f0
          have hr_f1 := HR.f1
          have hr_f2 := HR.f2
          go_wp2_with fail
          refine bodyPost_ret (v := .tuple #[.agg #[.bool false, .slice none 0 0, .int .i64 0], .bool false]) (by simp [results, Tryz.results12, go_sem, hr_0, hr_1, hr_2]) rfl ?_
          exact .inr ⟨HE.out, rfl, below3 HB (by have := HPS.out; omega) _ _ _⟩
end
end Go.Proofs.YtphnmccpcjecnaaGreatDoor
