/- Several texts in one, each with its own sentence and conditions. -/
import Derived.Test.YtphnmccpcjecnaaGreatDoorDsy
import Derived.Test.YtphnmccpcjecnaaGreatDoorGDsbc22
section
/- DecSays over all inputs. No conditions. -/
open Go.RowKit
set_option maxRecDepth 100000
namespace Go.Proofs.YtphnmccpcjecnaaGreatDoor
section
variable {W w : World} {b b0 b1 : Bool} {A A0 A1 A2 : Option Addr} {n c n0 c0 n1 c1 n2 c2 m : Nat} {s0 most : Int} {s : ByteArray} {z0 z1 z2 : List Nat}
set_option maxHeartbeats 2000000 in
theorem raw_no {k : Int} (h : ∀ W', Bel W W' → Calls Tryz.prog 38 #[.agg #[.bool b, .slice A n c, .int .i64 k]] W' (RetB W' false)) : Calls Tryz.prog 10 #[.agg #[.bool b, .slice A n c, .int .i64 k]] W (RDR W false 0 0) := by
  have CG := hide h
  clear h
  have HB := Bel.refl W
  go_enter Tryz.func10, Tryz.ntmps10
  go_wp2_with (first | (go_at_call 38; (with_reducible refine (CG.out _ ((HB.al _).al _)).mono ?_); rintro e w1 ⟨rfl, hbk⟩; replace hbk := Bel.hid hbk; have HA := At.up ((at_new0 _ _ _).al _) hbk; have HR := At.up (at_new1 _ _ _ _) hbk; replace HB := ((HB.al _).al _).up hbk; have ha_0 := HA.c0; have ha_1 := HA.c1; have ha_2 := HA.c2; have ha_l := HA.lt; have hr_0 := HR.c0; have hr_1 := HR.c1; have hr_2 := HR.c2; have hr_l := HR.lt; have hr_f0 := HR.f0; have hr_f1 := HR.f1; have hr_f2 := HR.f2) | fail)
  refine bodyPost_ret (v := .agg #[.bool false, .slice none 0 0, .int .i64 0]) (by simp [results, Tryz.results10, go_sem, hr_0, hr_1, hr_2]) rfl ?_
  refine ⟨none, 0, by rw [dq_zero]; rfl, rn_nil _ _ _ _, ?_⟩
  first | exact below3 HB (by omega) _ _ _ | exact HB
theorem dsays_l1 (w : World) (h : 300 < s.size) : Calls Tryz.prog 3 #[.string s, .agg #[.bool b0, .slice A0 n0 c0, .int .i64 s0], .agg #[.bool b1, .slice A1 n1 c1, .slice A2 n2 c2], .int .i64 most] w fun e w' => e = .returned (.bool true) ∧ Below w.heap.size w w' := by
  have d : decide ((300 : Int) < (s.size : Int)) = true := decide_eq_true (by omega)
  clear h
  have HB := Bel.refl w
  go_enter Tryz.func3, Tryz.ntmps3
  go_wp2_with (first | (go_at_call 5; (with_reducible refine (awake4_any _).mono ?_); rintro e w1 ⟨rfl, hbk⟩; replace HB := ((HB.al _).al _).up hbk) | fail)
  go_ret
  exact ⟨rfl, HB⟩
theorem dsays_l2 (w : World) (h1 : s.size ≤ 300) (h : 12 < n0) : Calls Tryz.prog 3 #[.string s, .agg #[.bool b0, .slice A0 n0 c0, .int .i64 s0], .agg #[.bool b1, .slice A1 n1 c1, .slice A2 n2 c2], .int .i64 most] w fun e w' => e = .returned (.bool true) ∧ Below w.heap.size w w' := by
  have d : decide ((300 : Int) < (s.size : Int)) = false := decide_eq_false (by omega)
  have d2 : decide ((12 : Int) < (n0 : Int)) = true := decide_eq_true (by omega)
  clear h h1
  have HB := Bel.refl w
  go_enter Tryz.func3, Tryz.ntmps3
  go_wp2_with (first | (go_at_call 5; (with_reducible refine (awake4_any _).mono ?_); rintro e w1 ⟨rfl, hbk⟩; have HA := At.up ((at_new0 _ _ _).al _) hbk; replace HB := ((HB.al _).al _).up hbk; have ha_0 := HA.c0; have ha_1 := HA.c1; have ha_2 := HA.c2; have ha_l := HA.lt) | fail)
  go_ret
  exact ⟨rfl, HB⟩
theorem dsays_l3 (w : World) (h1 : s.size ≤ 300) (h2 : n0 ≤ 12) (h : ¬ (n1 ≤ 12 ∧ n2 ≤ 12)) : Calls Tryz.prog 3 #[.string s, .agg #[.bool b0, .slice A0 n0 c0, .int .i64 s0], .agg #[.bool b1, .slice A1 n1 c1, .slice A2 n2 c2], .int .i64 most] w fun e w' => e = .returned (.bool true) ∧ Below w.heap.size w w' := by
  have d : decide ((300 : Int) < (s.size : Int)) = false := decide_eq_false (by omega)
  have d2 : decide ((12 : Int) < (n0 : Int)) = false := decide_eq_false (by omega)
  have CL := hide (fun W' => rlong4_n (W := W') (A := A1) (A' := A2) (c := c1) (c' := c2) (b := b1) h)
  clear h h1 h2
  have HB := Bel.refl w
  go_enter Tryz.func3, Tryz.ntmps3
  go_wp2_with (first | (go_at_call 5; (with_reducible refine (awake4_any _).mono ?_); rintro e w1 ⟨rfl, hbk⟩; have HA := At.up ((at_new0 _ _ _).al _) hbk; have HR := At.up (at_new1 _ _ _ _) hbk; replace HB := ((HB.al _).al _).up hbk; have ha_0 := HA.c0; have ha_1 := HA.c1; have ha_2 := HA.c2; have ha_l := HA.lt; have hr_0 := HR.c0; have hr_1 := HR.c1; have hr_2 := HR.c2; have hr_l := HR.lt) | (go_at_call 6; (with_reducible refine (CL.out _).mono ?_); rintro e w2 ⟨rfl, hbk⟩; replace HB := HB.up hbk) | fail)
  go_ret
  exact ⟨rfl, HB⟩
theorem w32_lt {x i j : Nat} (h : x < W32 ^ i) (hij : i ≤ j) : x < W32 ^ j := Nat.lt_of_lt_of_le h (Nat.pow_le_pow_right (by decide) hij)
theorem strw_of {l : List UInt8} {e : Ending} {w' : World} (h : TxR W l e w') : StrW W ⟨l.toArray⟩ e w' := by
  obtain ⟨t, he, ht, hb⟩ := h
  have : t = ⟨l.toArray⟩ := ByteArray.ext (by rw [← ht.out])
  exact ⟨by rw [he, this], hb⟩
theorem dis_two {W' : World} {so : Bool} {mo jo : Nat} {B C : Option Addr} {e f : Nat} (h1 : jo ≤ 60) (h2 : so = true → 0 < mo) (h3 : dl mo < 4000) (g1 : Nm W' B (dl mo) e mo) (g2 : Rn W' C f mo) :
    Calls Tryz.prog 9 #[.agg #[.bool so, .slice B (dl mo) e, .int .i64 (jo : Int)], .agg #[.bool so, .slice C (dq mo) f, .int .i64 (jo : Int)]] W' (BoolR W' true) :=
  (dis_h (dx_can g1 h1 h2) g2 h3).mono fun _ _ h => ⟨h.1, Bel.hid h.2⟩
/-- What dec.Of and the document's DOf make of a fraction. -/
theorem dof_two {x : Rat} {lim : Nat} (hl : lim ≤ 60) (bx : x.num.natAbs < W32 ^ 12) : ∃ ok so mo jo, jo ≤ 60 ∧ (so = true → 0 < mo) ∧ mo < W32 ^ 40 ∧ (∀ W e w', DofP W x lim e w' → DZv W ok so mo jo e w') ∧
    ((ok = true ∧ jo ≤ lim ∧ x.den ∣ 10 ^ jo ∧ (∀ k, k < jo → ¬ x.den ∣ 10 ^ k) ∧ so = decide (x.num < 0) ∧ mo = x.num.natAbs * (10 ^ jo / x.den)) ∨ (ok = false ∧ ∀ k, k ≤ lim → ¬ x.den ∣ 10 ^ k)) := by
  by_cases hh : ∃ j, j ≤ lim ∧ x.den ∣ 10 ^ j
  · obtain ⟨j, ⟨hj1, hj2⟩, hj3⟩ : ∃ j, (j ≤ lim ∧ x.den ∣ 10 ^ j) ∧ ∀ k, k < j → ¬ x.den ∣ 10 ^ k := by
      obtain ⟨j0, h1, h2⟩ := hh
      have : ∀ q j, j ≤ q → j ≤ lim → x.den ∣ 10 ^ j → ∃ j, (j ≤ lim ∧ x.den ∣ 10 ^ j) ∧ ∀ k, k < j → ¬ x.den ∣ 10 ^ k := by
        intro q
        induction q with
        | zero => intro j hq h1 h2; exact ⟨j, ⟨h1, h2⟩, fun k hk => absurd hk (by omega)⟩
        | succ q ih =>
          intro j hq h1 h2
          by_cases h3 : ∃ k, k < j ∧ x.den ∣ 10 ^ k
          · obtain ⟨k, hk, hd⟩ := h3
            exact ih k (by omega) (by omega) hd
          · exact ⟨j, ⟨h1, h2⟩, fun k hk hd => h3 ⟨k, hk, hd⟩⟩
      exact this j0 j0 (Nat.le_refl _) h1 h2
    have hq : 0 < 10 ^ j / x.den := Nat.div_pos (Nat.le_of_dvd (Nat.pow_pos (by decide)) hj2) x.den_pos
    refine ⟨true, decide (x.num < 0), x.num.natAbs * (10 ^ j / x.den), j, by omega, fun h => ?_, ?_, fun W e w' h => ?_, .inl ⟨rfl, hj1, hj2, hj3, rfl, rfl⟩⟩
    · have h1 := of_decide_eq_true h
      exact Nat.mul_pos (by omega) hq
    · have h1 : 10 ^ j / x.den ≤ 10 ^ 60 := Nat.le_trans (Nat.div_le_self _ _) (Nat.pow_le_pow_right (by decide) (by omega))
      have h2 : (10 : Nat) ^ 60 < W32 ^ 28 := by decide
      calc x.num.natAbs * (10 ^ j / x.den) < W32 ^ 12 * W32 ^ 28 := Nat.mul_lt_mul'' bx (by omega)
        _ = W32 ^ 40 := by rw [← Nat.pow_add]
    · rcases h with ⟨i, h1, h2, h3, C, c, he, hn, hb⟩ | ⟨h1, _⟩
      · have : i = j := by
          rcases Nat.lt_trichotomy i j with h | h | h
          · exact absurd h2 (hj3 i h)
          · exact h
          · exact absurd hj2 (h3 j h)
        subst this
        exact ⟨_, C, _, c, _, he, fun _ => ⟨rfl, rfl, rfl, hn⟩, hb⟩
      · exact absurd hj2 (h1 j hj1)
  · refine ⟨false, false, 0, 0, by omega, (fun h => by cases h), by decide, fun W e w' h => ?_, .inr ⟨rfl, fun k hk hd => hh ⟨k, hk, hd⟩⟩⟩
    rcases h with ⟨i, h1, h2, _⟩ | ⟨_, he, hb⟩
    · exact absurd ⟨i, h1, h2⟩ hh
    · exact ⟨_, _, _, _, _, he, (fun h => by cases h), hb⟩
end
end Go.Proofs.YtphnmccpcjecnaaGreatDoor
end

section
/- DecSays is true of any text, numeral, fraction, number of digits. No conditions. -/
open Go.RowKit
set_option maxRecDepth 100000
namespace Go.Proofs.YtphnmccpcjecnaaGreatDoor
section
variable {W w : World} {b0 b1 : Bool} {A0 A1 A2 : Option Addr} {n0 c0 n1 c1 n2 c2 : Nat} {s0 most : Int} {s : ByteArray} {z0 z1 z2 : List Nat}
theorem d4own_in {w : World} (h0 : n1 = z1.length ∧ n1 ≤ c1 ∧ Rd U32 w w.heap.size A1 z1 ∧ Good32 z1) (h1 : n2 = z2.length ∧ n2 ≤ c2 ∧ Rd U32 w w.heap.size A2 z2 ∧ Good32 z2) (hl : n1 ≤ 12 ∧ n2 ≤ 12) {x : Rat} (hx : mkRat (zi b1 (val W32 z1)) (val W32 z2) = x) (W' : World) (hb : Bel w W') :
    Calls Tryz.prog 13 #[.agg #[.bool b1, .slice A1 n1 c1, .slice A2 n2 c2]] W' (RQm W' (decide (x.num < 0)) x.num x.den) := by
  have wd : ∀ {A : Option Addr} {l c : Nat} {z : List Nat}, (l = z.length ∧ l ≤ c ∧ Rd U32 w w.heap.size A z ∧ Good32 z) → l ≤ 12 → ∀ W'', Bel W' W'' → Calls Tryz.prog 40 #[.slice A l c] W'' (RefRz W'' (val W32 z)) := fun h hl W'' hb' => by
    have hbb : Bel w W'' := hb.up hb'
    exact Words_any h.1 ((h.2.2.1.below hbb).more (Below.size hbb)) h.2.2.2 (by omega)
  have lt : ∀ {l : List Nat} {k : Nat}, Good32 l → k = l.length → k ≤ 12 → val W32 l < W32 ^ 12 := fun hg hk h12 => Nat.lt_of_lt_of_le (val_lt _ hg) (Nat.pow_le_pow_right (by decide) (by omega))
  have q0 : dq (val W32 z1) ≤ 4000 := Nat.le_trans (dq_words (lt h0.2.2.2 h0.1 hl.1)) (by decide)
  have q1 : dq (val W32 z2) ≤ 4000 := Nat.le_trans (dq_words (lt h1.2.2.2 h1.1 hl.2)) (by decide)
  by_cases hd : val W32 z2 = 0
  · exact rown4_0 (wd h1 hl.2) hd (by rw [← hx, hd, Rat.mkRat_zero]) rfl
  · exact rown4_1 (wd h0 hl.1) (wd h1 hl.2) (by omega) rfl q0 q1 hx rfl
theorem dl00 : dl 0 = 0 := Nat.le_zero.1 (dl_le (m := 0) (k := 0) (by decide))
theorem d4mk {z : Int} {d : Nat} (g1 : z.natAbs < W32 ^ 12) (g2 : d < W32 ^ 12) : Bd (mkRat z d) 12 := by
  rcases Nat.eq_zero_or_pos d with h | h
  · subst h
    rw [Rat.mkRat_zero]
    exact ⟨Nat.pow_pos (by decide), Nat.one_lt_pow (by omega) (by decide)⟩
  · exact tt_bd ⟨h, rfl, g1, g2⟩
/-- What a numeral that came in counts as. -/
theorem d4in (h0 : n0 = z0.length ∧ n0 ≤ c0 ∧ Rd U32 w w.heap.size A0 z0 ∧ Good32 z0) (hl : n0 ≤ 12) : ∃ yb A n c ym ys, ys ≤ 60 ∧ (yb = true → 0 < ym) ∧ ym < W32 ^ 12 ∧ DY w (.agg #[.bool b0, .slice A0 n0 c0, .int .i64 s0]) yb A n c ym ys ∧
    ∀ W', Bel w W' → Calls Tryz.prog 10 #[.agg #[.bool b0, .slice A0 n0 c0, .int .i64 s0]] W' (RDR W' yb ym ys) := by
  have lt : val W32 z0 < W32 ^ 12 := Nat.lt_of_lt_of_le (val_lt _ h0.2.2.2) (Nat.pow_le_pow_right (by decide) (by omega))
  have nm : Nm w A0 n0 c0 (val W32 z0) := nm_later (later_of h0 (by omega)) (Below.refl _ _)
  obtain ⟨u, hu, hg⟩ := dgood_e (b := b0) nm s0
  cases u with
  | true =>
    obtain ⟨g1, g2, g3⟩ := hu rfl
    have e : s0 = (s0.toNat : Int) := by omega
    have dx : DX w b0 A0 n0 c0 (val W32 z0) s0.toNat := ⟨nm, by omega, g3, by rw [← e]; exact hg⟩
    refine ⟨b0, A0, n0, c0, val W32 z0, s0.toNat, by omega, g3, lt, ?_, fun W' hb => ?_⟩
    · rw [show (.agg #[.bool b0, .slice A0 n0 c0, .int .i64 s0] : Value) = .agg #[.bool b0, .slice A0 n0 c0, .int .i64 (s0.toNat : Int)] by rw [← e]]
      exact dx.y
    · rw [show (.agg #[.bool b0, .slice A0 n0 c0, .int .i64 s0] : Value) = .agg #[.bool b0, .slice A0 n0 c0, .int .i64 (s0.toNat : Int)] by rw [← e]]
      exact raw_h (dx.bel hb) (by omega)
  | false => exact ⟨false, none, 0, 0, 0, 0, by omega, (fun h => by cases h), Nat.pow_pos (by decide), dy_no hg, fun W' hb => raw_no (fun W2 h2 => hg W2 (hb.up h2.hid))⟩
set_option maxHeartbeats 4000000 in
theorem dsays_main (w : World) (hs : s.size ≤ 300) (h0 : n0 = z0.length ∧ n0 ≤ c0 ∧ Rd U32 w w.heap.size A0 z0 ∧ Good32 z0) (h1 : n1 = z1.length ∧ n1 ≤ c1 ∧ Rd U32 w w.heap.size A1 z1 ∧ Good32 z1) (h2 : n2 = z2.length ∧ n2 ≤ c2 ∧ Rd U32 w w.heap.size A2 z2 ∧ Good32 z2) (hl0 : n0 ≤ 12) (hl : n1 ≤ 12 ∧ n2 ≤ 12) :
    Calls Tryz.prog 3 #[.string s, .agg #[.bool b0, .slice A0 n0 c0, .int .i64 s0], .agg #[.bool b1, .slice A1 n1 c1, .slice A2 n2 c2], .int .i64 most] w fun e w' => e = .returned (.bool true) ∧ Below w.heap.size w w' := by
  have hS : decide ((300 : Int) < (s.size : Int)) = false := decide_eq_false (by omega)
  have hA : decide ((12 : Int) < (n0 : Int)) = false := decide_eq_false (by omega)
  -- the text
  obtain ⟨er, pb, pv, ps, hE, CP, CX, CDp⟩ : ∃ (er : Int) (pb : Bool) (pv ps : Nat), ((er = 0) ∨ ((er == 0) = false ∧ er ≠ 0)) ∧
      (∀ W', Calls Tryz.prog 7 #[.string s] W' (DPv W' er pb pv ps)) ∧ (∀ W', Calls Tryz.prog 8 #[.string s] W' (DXv W' er pb pv ps)) ∧
      (∀ W' B e C f, er = 0 → Nm W' B (dl pv) e pv → Rn W' C f pv → Calls Tryz.prog 9 #[.agg #[.bool pb, .slice B (dl pv) e, .int .i64 (ps : Int)], .agg #[.bool pb, .slice C (dq pv) f, .int .i64 (ps : Int)]] W' (BoolR W' true)) := by
    rcases dparse_two s with ⟨sg, v, sc, hv, hsc, hsg, hp, hx⟩ | ⟨er, her, hp, hx⟩
    · refine ⟨0, sg, v, sc, .inl rfl, fun W' => (hp W').mono fun e w' ⟨C, c, he, hn, hb⟩ => ⟨sg, C, dl v, c, sc, he, fun _ => ⟨rfl, rfl, rfl, hn⟩, hb⟩, fun W' => (hx W').mono fun e w' ⟨C, c, he, hn, hb⟩ => ⟨sg, C, dq v, c, sc, he, fun _ => ⟨rfl, rfl, rfl, hn⟩, hb⟩, fun W' B e C f _ g1 g2 => dis_two hsc (fun h => Nat.pos_of_ne_zero (hsg h)) (Nat.lt_of_le_of_lt (dl_le hv) (by decide)) g1 g2⟩
    · refine ⟨er, false, 0, 0, .inr ⟨by simpa using her, her⟩, fun W' => (hp W').mono fun e w' ⟨he, hb⟩ => ⟨false, none, 0, 0, 0, he, fun h => absurd (of_decide_eq_true h) her, hb⟩, fun W' => (hx W').mono fun e w' ⟨he, hb⟩ => ⟨false, none, 0, 0, 0, he, fun h => absurd (of_decide_eq_true h) her, hb⟩, fun W' B e C f h _ _ => absurd h her⟩
  -- the numeral
  obtain ⟨yb, A, n, c, ym, ys, hys, hyb, hym, dy, CR⟩ := d4in (b0 := b0) (s0 := s0) h0 hl0
  have dlm : dl ym ≤ 99999 := Nat.le_trans (dl_le hym) (by decide)
  have dqm : dq ym ≤ 20000 := Nat.le_trans (dq_words hym) (by decide)
  have e1 : (zi yb ym).natAbs = ym := zi_abs _ _
  -- the fraction
  obtain ⟨x, hx⟩ : ∃ x, mkRat (zi b1 (val W32 z1)) (val W32 z2) = x := ⟨_, rfl⟩
  have lt : ∀ {l : List Nat} {k : Nat}, Good32 l → k = l.length → k ≤ 12 → val W32 l < W32 ^ 12 := fun hg hk h12 => Nat.lt_of_lt_of_le (val_lt _ hg) (Nat.pow_le_pow_right (by decide) (by omega))
  have v1 := lt h1.2.2.2 h1.1 hl.1
  have v2 := lt h2.2.2.2 h2.1 hl.2
  have bx : Bd x 12 := by rw [← hx]; exact d4mk (by rw [zi_abs]; exact v1) v2
  obtain ⟨lim, hlim⟩ : ∃ lim : Nat, min (max most 0) 60 = (lim : Int) := ⟨(min (max most 0) 60).toNat, by omega⟩
  obtain ⟨ok, so, mo, jo, hjo, hso, hmo, DZ, HO⟩ := dof_two (x := x) (lim := lim) (by omega) bx.1
  have nm1 : Nm w A1 n1 c1 (val W32 z1) := nm_later (later_of h1 (by omega)) (Below.refl _ _)
  have nm2 : Nm w A2 n2 c2 (val W32 z2) := nm_later (later_of h2 (by omega)) (Below.refl _ _)
  have CO : ∀ W', Bel w W' → Calls Tryz.prog 11 #[.agg #[.bool b1, .slice A1 n1 c1, .slice A2 n2 c2], .int .i64 most] W' (DOv W' ok so mo jo) := fun W' hb => by
    by_cases hd : val W32 z2 = 0
    · have hx0 : x = 0 := by rw [← hx, hd, Rat.mkRat_zero]
      have hden : x.den = 1 := by rw [hx0]; rfl
      have hnum : x.num = 0 := by rw [hx0]; rfl
      rcases HO with ⟨r1, r2, r3, r4, r5, r6⟩ | ⟨r1, r2⟩
      · have hj0 : jo = 0 := by
          rcases Nat.eq_zero_or_pos jo with h | h
          · exact h
          · exact absurd (by rw [hden]; exact Nat.one_dvd _) (r4 0 h)
        have hm0 : mo = 0 := by rw [r6, hnum]; simp
        have hs0 : so = false := by rw [r5, hnum]; rfl
        rw [r1, hj0, hm0, hs0]
        have h9 : Nm W' A2 n2 c2 0 := by rw [← hd]; exact nm2.up hb.hid
        exact (dof_zero h9).mono fun e w' ⟨he, hb⟩ => ⟨false, none, 0, 0, 0, he, fun _ => ⟨rfl, by rw [show dl 0 = 0 from dl00], rfl, by rw [show dl 0 = 0 from dl00]; exact nm_nil _ _ _⟩, hb⟩
      · exact absurd (by rw [hden]; exact Nat.one_dvd _) (r2 0 (Nat.zero_le _))
    · have hz : ZA W' b1 A1 n1 c1 (zi b1 (val W32 z1)) := za_of (nm1.up hb.hid)
      have hz2 := nm2.up hb.hid
      have l1 : dl (zi b1 (val W32 z1)).natAbs ≤ 20000 := by rw [zi_abs]; exact Nat.le_trans (dl_le v1) (by decide)
      have l2 : dl (val W32 z2) ≤ 20000 := Nat.le_trans (dl_le v2) (by decide)
      rcases HO with ⟨r1, r2, r3, r4, r5, r6⟩ | ⟨r1, r2⟩
      · rw [r1, r5, r6]
        exact (dof_hit hz hz2 (by omega) hx l1 l2 hlim r2 r3 r4).mono fun e w' ⟨C, c, he, hn, hb⟩ => ⟨_, C, _, c, _, he, fun _ => ⟨rfl, rfl, rfl, hn⟩, hb⟩
      · rw [r1]
        exact (dof_miss hz hz2 (by omega) hx l1 l2 hlim r2).mono fun e w' ⟨he, hb⟩ => ⟨_, _, _, _, _, he, (fun h => by cases h), hb⟩
  have CZ : ∀ W' B e C f, Rz W' (decide (x.num < 0)) B e x.num → Rn W' C f x.den → Calls Tryz.prog 12 #[.agg #[.bool (decide (x.num < 0)), .slice B (dq x.num.natAbs) e, .slice C (dq x.den) f], .int .i64 most] W' (DZv W' ok so mo jo) := fun W' B e C f g1 g2 =>
    (rdof_h g1 g2 (Nat.le_trans (dq_words bx.1) (by decide)) (Nat.le_trans (dq_words bx.2) (by decide)) hlim).mono fun e w' h => DZ _ _ _ h
  -- value of the numeral
  obtain ⟨r1, hr1⟩ : ∃ r, mkRat (zi yb ym) (10 ^ ys) = r := ⟨_, rfl⟩
  have br : Bd r1 40 := by
    rw [← hr1]
    refine tt_bd ⟨Nat.pow_pos (by decide), rfl, by rw [zi_abs]; exact w32_lt hym (by decide), ?_⟩
    exact Nat.lt_of_le_of_lt (Nat.pow_le_pow_right (by decide) hys) (by decide)
  have h2q : ym / 10 ^ ys < W32 ^ 12 := Nat.lt_of_le_of_lt (Nat.div_le_self _ _) hym
  obtain ⟨mh, hmh⟩ : ∃ v, v = ym / 10 ^ (ys - shortS ym ys) := ⟨_, rfl⟩
  obtain ⟨sh, hsh⟩ : ∃ v, v = shortS ym ys := ⟨_, rfl⟩
  have hmb : mh < W32 ^ 12 := by rw [hmh]; exact Nat.lt_of_le_of_lt (Nat.div_le_self _ _) hym
  have hm0 : yb = true → 0 < mh := fun h => by
    rw [hmh]
    exact Nat.div_pos (Nat.le_of_dvd (hyb h) (short_dvd _ _)) (Nat.pow_pos (by decide))
  have hsh6 : sh ≤ 60 := by rw [hsh]; exact Nat.le_trans (short_le _ _) hys
  refine (dsays_w (er := er) (pb := pb) (pv := pv) (ps := ps) (yb := yb) (ym := ym) (ys := ys) (ok := ok) (so := so) (mo := mo) (jo := jo) (sx := decide (x.num < 0)) (x := x) (s1 := decide (r1.num < 0)) (r1 := r1) (wh := ym / 10 ^ ys) (mh := mh) (sh := sh) (tx := ⟨(decD yb ym ys).toArray⟩) (tp := ⟨(partL ym ys).toArray⟩) w
    (fun W' => rlong4_h hl.1 hl.2) CP CX CDp CR CO (fun W' hb => d4own_in h1 h2 hl hx W' hb) CZ
    (fun W' B e C f _ g1 g2 => dis_two hjo hso (Nat.lt_of_le_of_lt (dl_le hmo) (by decide)) g1 g2)
    (fun W' hb => (dtext_h (dy.bel hb) dlm).mono fun _ _ h => strw_of h)
    (fun W' B e g => (rdtext_h g dqm (by omega)).mono fun _ _ h => strw_of h)
    (fun W' hb => drat_h (dy.bel hb) dlm hr1)
    (fun W' B e g => ?_)
    (fun W' B e B' e' C f C' f' g1 g2 g3 g4 => qis4_h g1 g2 g3.1 g4 rfl (Nat.lt_of_le_of_lt (dl_le br.1) (by decide)) (Nat.lt_of_le_of_lt (dl_le br.2) (by decide)))
    (fun W' hb => whole_h (dy.bel hb) dlm)
    (fun W' B e g => rdwhole_h g (by omega) (by omega))
    (fun W' B e C f g1 g2 => is4_same g1 g2 (Nat.lt_of_le_of_lt (dl_le h2q) (by decide)))
    (fun W' hb => (part_h (dy.bel hb) dlm).mono fun _ _ h => strw_of h)
    (fun W' B e g => (rdpart_h g dqm (by omega)).mono fun _ _ h => strw_of h)
    (fun W' hb => by rw [hmh, hsh]; exact short_h (dy.bel hb) dlm)
    (fun W' B e g => by rw [hmh, hsh]; exact rdshort_h g dqm (by omega) (fun h => by have := hyb h; omega))
    (fun W' B e C f g1 g2 => dis_two hsh6 hm0 (Nat.lt_of_le_of_lt (dl_le hmb) (by decide)) g1 g2)
    hS hA hE)
  have h9 := rdrat_h (W := W') (A := B) (c := e) (b := yb) (s := ys) (z := zi yb ym) (t := yb) (r := r1) (by rw [e1]; exact g)
    (by rw [e1]; cases yb with
      | false => rfl
      | true => rw [decide_eq_true (hyb rfl)]; rfl) (by rw [e1]) (by rw [e1]; omega) (by omega) hr1
  rw [e1] at h9
  exact h9
theorem dsays_walk (w : World) (_hs : s.size ≤ maxLen) (h0 : n0 = z0.length ∧ n0 ≤ c0 ∧ Rd U32 w w.heap.size A0 z0 ∧ Good32 z0) (_hb : -9223372036854775808 ≤ s0 ∧ s0 ≤ 9223372036854775807) (h1 : n1 = z1.length ∧ n1 ≤ c1 ∧ Rd U32 w w.heap.size A1 z1 ∧ Good32 z1) (h2 : n2 = z2.length ∧ n2 ≤ c2 ∧ Rd U32 w w.heap.size A2 z2 ∧ Good32 z2) (_hm : -9223372036854775808 ≤ most ∧ most ≤ 9223372036854775807) :
    Calls Tryz.prog 3 #[.string s, .agg #[.bool b0, .slice A0 n0 c0, .int .i64 s0], .agg #[.bool b1, .slice A1 n1 c1, .slice A2 n2 c2], .int .i64 most] w fun e w' => e = .returned (.bool true) ∧ Below w.heap.size w w' := by
  by_cases hs : s.size ≤ 300
  · by_cases hl0 : n0 ≤ 12
    · by_cases hl : n1 ≤ 12 ∧ n2 ≤ 12
      · exact dsays_main w hs h0 h1 h2 hl0 hl
      · exact dsays_l3 w hs hl0 hl
    · exact dsays_l2 w hs (by omega)
  · exact dsays_l1 w (by omega)
end
end Go.Proofs.YtphnmccpcjecnaaGreatDoor
end
