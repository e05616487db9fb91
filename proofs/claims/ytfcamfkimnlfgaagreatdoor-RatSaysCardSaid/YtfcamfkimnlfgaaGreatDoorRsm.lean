/- RatSays over all inputs. No conditions. -/
import Derived.Test.YtfcamfkimnlfgaaGreatDoorRsy
import Derived.Test.YtfcamfkimnlfgaaGreatDoorGRsmc41
open Go.RowKit
set_option maxRecDepth 100000
namespace Go.Proofs.YtfcamfkimnlfgaaGreatDoor
theorem cmpR_diff (x y : Rat) : cmpR x y = (x + -y).num.sign := by
  have h1 : x + -y = x - y := (Rat.sub_eq_add_neg x y).symm
  rw [h1]
  unfold cmpR
  by_cases h : x < y
  · rw [if_pos h]
    have h2 : (x - y) < 0 := by
      have h3 := Rat.add_lt_add_right (c := -y) |>.2 h
      rwa [Rat.add_neg_cancel, ← Rat.sub_eq_add_neg] at h3
    rw [Int.sign_eq_neg_one_of_neg (num_neg_of h2)]
  · rw [if_neg h]
    by_cases h4 : y < x
    · rw [if_pos h4]
      have h2 : 0 < x - y := by
        have h3 := Rat.add_lt_add_right (c := -y) |>.2 h4
        rwa [Rat.add_neg_cancel, ← Rat.sub_eq_add_neg] at h3
      have h5 : 0 ≤ (x - y).num := Rat.num_nonneg.2 (Rat.le_of_lt h2)
      have h6 : (x - y).num ≠ 0 := fun e => by rw [Rat.num_eq_zero.1 e] at h2; exact absurd h2 Rat.lt_irrefl
      rw [Int.sign_eq_one_of_pos (by omega)]
    · rw [if_neg h4]
      have h5 : x = y := Rat.le_antisymm (Rat.not_lt.1 h4) (Rat.not_lt.1 h)
      rw [h5, Rat.sub_self]; rfl
theorem bd_mk {z : Int} {d K : Nat} (g1 : z.natAbs < W32 ^ K) (g2 : d < W32 ^ K) (hK : 0 < K) : Bd (mkRat z d) K := by
  rcases Nat.eq_zero_or_pos d with h | h
  · subst h
    rw [Rat.mkRat_zero]
    exact ⟨Nat.pow_pos (by decide), Nat.one_lt_pow (by omega) (by decide)⟩
  · exact tt_bd ⟨h, rfl, g1, g2⟩
theorem zrs_f {W : World} {z : Int} {e : Ending} {w' : World} (h : ZR W z e w') : ZRs W (decide (z < 0)) z e w' := h
section
variable {b0 b1 : Bool} {A0 A1 A2 A3 : Option Addr} {l0 c0 l1 c1 l2 c2 l3 c3 : Nat} {z0 z1 z2 z3 : List Nat} {s : ByteArray} {k : Int}
/-- own of a fraction that came in. -/
theorem rown_in {w : World} (h0 : l0 = z0.length ∧ l0 ≤ c0 ∧ Rd U32 w w.heap.size A0 z0 ∧ Good32 z0) (h1 : l1 = z1.length ∧ l1 ≤ c1 ∧ Rd U32 w w.heap.size A1 z1 ∧ Good32 z1) (hl : l0 ≤ 12 ∧ l1 ≤ 12) {x : Rat} (hx : mkRat (zi b0 (val W32 z0)) (val W32 z1) = x) (W' : World) (hb : Bel w W') :
    Calls Tryz.prog 8 #[.agg #[.bool b0, .slice A0 l0 c0, .slice A1 l1 c1]] W' (RQv W' (decide (x.num < 0)) x) := by
  have wd : ∀ {A : Option Addr} {l c : Nat} {z : List Nat}, (l = z.length ∧ l ≤ c ∧ Rd U32 w w.heap.size A z ∧ Good32 z) → l ≤ 12 → ∀ W'', Bel W' W'' → Calls Tryz.prog 18 #[.slice A l c] W'' (RefRz W'' (val W32 z)) := fun h hl W'' hb' => by
    have hbb : Bel w W'' := hb.up hb'
    exact Words_any h.1 ((h.2.2.1.below hbb).more (Below.size hbb)) h.2.2.2 (by omega)
  have lt : ∀ {l : List Nat} {k : Nat}, Good32 l → k = l.length → k ≤ 12 → val W32 l < W32 ^ 12 := fun hg hk h12 => Nat.lt_of_lt_of_le (val_lt _ hg) (Nat.pow_le_pow_right (by decide) (by omega))
  have q0 : dq (val W32 z0) ≤ 4000 := Nat.le_trans (dq_words (lt h0.2.2.2 h0.1 hl.1)) (by decide)
  have q1 : dq (val W32 z1) ≤ 4000 := Nat.le_trans (dq_words (lt h1.2.2.2 h1.1 hl.2)) (by decide)
  by_cases hd : val W32 z1 = 0
  · exact rown_0 (wd h1 hl.2) hd (by rw [← hx, hd, Rat.mkRat_zero]) rfl
  · exact rown_1 (wd h0 hl.1) (wd h1 hl.2) (by omega) rfl q0 q1 hx rfl
set_option maxHeartbeats 2000000 in
theorem rsays_main (w : World) (h0 : l0 = z0.length ∧ l0 ≤ c0 ∧ Rd U32 w w.heap.size A0 z0 ∧ Good32 z0) (h1 : l1 = z1.length ∧ l1 ≤ c1 ∧ Rd U32 w w.heap.size A1 z1 ∧ Good32 z1)
    (h2 : l2 = z2.length ∧ l2 ≤ c2 ∧ Rd U32 w w.heap.size A2 z2 ∧ Good32 z2) (h3 : l3 = z3.length ∧ l3 ≤ c3 ∧ Rd U32 w w.heap.size A3 z3 ∧ Good32 z3)
    (la : l0 ≤ 12 ∧ l1 ≤ 12) (lb : l2 ≤ 12 ∧ l3 ≤ 12) (hs : s.size ≤ 60) (hk : -5 ≤ k ∧ k ≤ 5) :
    Calls Tryz.prog 3 #[.agg #[.bool b0, .slice A0 l0 c0, .slice A1 l1 c1], .agg #[.bool b1, .slice A2 l2 c2, .slice A3 l3 c3], .string s, .int .i64 k] w fun e w' => e = .returned (.bool true) ∧ Below w.heap.size w w' := by
  obtain ⟨d, hd⟩ : ∃ d, val W32 z1 = d := ⟨_, rfl⟩
  obtain ⟨x, hx⟩ : ∃ x, mkRat (zi b0 (val W32 z0)) (val W32 z1) = x := ⟨_, rfl⟩
  obtain ⟨y, hy⟩ : ∃ y, mkRat (zi b1 (val W32 z2)) (val W32 z3) = y := ⟨_, rfl⟩
  have qa0 := qa_in (b := b0) h0 h1 la
  have qb0 := qa_in (b := b1) h2 h3 lb
  rw [hx] at qa0
  rw [hy] at qb0
  have bx : Bd x 12 := by obtain ⟨z, d, _, _, e, g1, g2⟩ := qa0; rw [← e]; exact bd_mk g1 g2 (by decide)
  have by_ : Bd y 12 := by obtain ⟨z, d, _, _, e, g1, g2⟩ := qb0; rw [← e]; exact bd_mk g1 g2 (by decide)
  have QX : ∀ W', Bel w W' → QA W' b0 A0 l0 c0 A1 l1 c1 x 12 := fun W' hb => qa0.up hb.hid
  have QY : ∀ W', Bel w W' → QA W' b1 A2 l2 c2 A3 l3 c3 y 12 := fun W' hb => qb0.up hb.hid
  obtain ⟨fine, sp, rp, hfine, CP, CR⟩ := qparse_two hs
  obtain ⟨is1, sc, rc, his1, CW, CX⟩ := qpow_two (A := A0) (A' := A1) (n := l0) (c := c0) (n' := l1) (c' := c1) (b := b0) (sx := decide (x.num < 0)) bx hk
  have QIS : ∀ {r : Rat} {K : Nat}, Bd r K → K ≤ 61 → ∀ W' D e D' e' E f E' f', ZA W' (decide (r.num < 0)) D (dl r.num.natAbs) e r.num → Nm W' D' (dl r.den) e' r.den → Rz W' (decide (r.num < 0)) E f r.num → Rn W' E' f' r.den →
      Calls Tryz.prog 15 #[.agg #[.bool (decide (r.num < 0)), .slice D (dl r.num.natAbs) e, .slice D' (dl r.den) e'], .agg #[.bool (decide (r.num < 0)), .slice E (dq r.num.natAbs) f, .slice E' (dq r.den) f']] W' (BoolR W' true) := fun hb hK W' D e D' e' E f E' f' g1 g2 g3 g4 =>
    qis_h g1 g2 g3.1 g4 rfl (Nat.lt_of_le_of_lt (dl_le hb.1) (by omega)) (Nat.lt_of_le_of_lt (dl_le hb.2) (by omega))
  have hdx : 0 < d ∨ (d = 0 ∧ x = 0) := by
    rcases Nat.eq_zero_or_pos d with h | h
    · exact .inr ⟨h, by rw [← hx, hd, h, Rat.mkRat_zero]⟩
    · exact .inl h
  obtain ⟨ok, hok, hx1, hx2⟩ : ∃ ok, ((ok = true ∧ (x.num.sign == 0) = false ∧ (x.num.sign != 0) = true) ∨ (ok = false ∧ x.num.sign = 0)) ∧ (ok = true → x ≠ 0) ∧ (ok = false → x = 0) := by
    by_cases h : x = 0
    · exact ⟨false, .inr ⟨rfl, by rw [h]; rfl⟩, (fun h => by cases h), fun _ => h⟩
    · have hn : x.num.sign ≠ 0 := fun e => h (Rat.num_eq_zero.1 (Int.sign_eq_zero_iff_zero.1 e))
      exact ⟨true, .inl ⟨rfl, beq_eq_false_iff_ne.2 hn, bne_iff_ne.2 hn⟩, fun _ => h, (fun h => by cases h)⟩
  have CV : ∀ W', Bel w W' → Calls Tryz.prog 9 #[.agg #[.bool b0, .slice A0 l0 c0, .slice A1 l1 c1]] W' (OfV W' ok (decide (x⁻¹.num < 0)) x⁻¹) := fun W' hb => by
    cases ok
    · exact (inv_no (QX W' hb) (by decide) (hx2 rfl)).mono fun _ _ g => ofv_no g
    · exact (inv_yes (QX W' hb) (by decide) (by decide) (hx1 rfl)).mono fun _ _ g => ofv_y rfl g
  obtain ⟨there, hth, ht1, ht2⟩ : ∃ there, decide ((0 : Int) < (dq d : Int)) = there ∧ (there = true → 0 < d) ∧ (there = false → d = 0) := by
    refine ⟨_, rfl, fun h => ?_, fun h => ?_⟩
    · have := of_decide_eq_true h
      exact dq_pos.1 (by omega)
    · have h8 := of_decide_eq_false h
      rcases Nat.eq_zero_or_pos d with h9 | h9
      · exact h9
      · have := dq_pos.2 h9; omega
  have COf : ∀ W', Bel w W' → Calls Tryz.prog 17 #[.agg #[.bool b0, .slice A0 l0 c0], .agg #[.slice A1 l1 c1]] W' (OfV W' there (decide (x.num < 0)) x) := fun W' hb => by
    have n0 := za_of (b := b0) (nm_later (later_of h0 (by omega)) hb)
    have n1 := nm_later (later_of h1 (by omega)) hb
    have lt : ∀ {l : List Nat} {k : Nat}, Good32 l → k = l.length → k ≤ 12 → val W32 l < W32 ^ 12 := fun hg hk h12 => Nat.lt_of_lt_of_le (val_lt _ hg) (Nat.pow_le_pow_right (by decide) (by omega))
    rw [hd] at n1
    cases there
    · rw [ht2 rfl] at n1
      exact (of_no n1).mono fun _ _ g => ofv_no g
    · refine (of_yes n0 n1 (ht1 rfl) (by rw [← hd]; exact hx) ?_ ?_).mono fun _ _ g => ofv_y rfl g
      · rw [zi_abs]; exact Nat.le_trans (dl_le (lt h0.2.2.2 h0.1 la.1)) (by decide)
      · rw [← hd]; exact Nat.le_trans (dl_le (lt h1.2.2.2 h1.1 la.2)) (by decide)
  have CWd : ∀ W', Bel w W' → Calls Tryz.prog 18 #[.slice A1 l1 c1] W' (WdR W' (dq d)) := fun W' hb => by
    rw [← hd]
    exact (Words_any h1.1 ((h1.2.2.1.below hb).more (Below.size hb)) h1.2.2.2 (by omega)).mono fun _ _ ⟨A, c, he, _, hb⟩ => ⟨A, c, he, hb⟩
  have tx : ∀ {W : World} {e : Ending} {w' : World}, TxR W (decQ x) e w' → StrR W ⟨(decQ x).toArray⟩ e w' := fun h => str_of h rfl
  have bf : dl x.floor.natAbs < 4000 := Nat.lt_of_le_of_lt (dl_le (bd_floor bx)) (by decide)
  refine rsays_w w (fun W' => rlong_h la.1 la.2) (fun W' => rlong_h lb.1 lb.2) (rown_in h0 h1 la hx) (rown_in h2 h3 lb hy) CV CP CR (fun W' hb => CW W' (QX W' hb)) CX
    (fun W' D e D' e' g1 _ => rqsign_h g1 rfl) (fun W' D e D' e' hk g1 g2 => rqinv_c g1 g2 (hx1 hk) rfl)
    (fun W' D e D' e' E f E' f' hk => QIS (bd_inv3 bx (hx1 hk)) (by decide) W' D e D' e' E f E' f')
    (fun W' D e D' e' E f E' f' hk => by obtain ⟨h8, h9⟩ := hfine hk; rw [h8]; exact QIS h9 (by decide) W' D e D' e' E f E' f')
    (fun W' D e D' e' E f E' f' hk => by obtain ⟨h8, h9⟩ := his1 hk; rw [h8]; exact QIS h9 (by decide) W' D e D' e' E f E' f')
    (fun W' D e D' e' E f E' f' _ => QIS bx (by decide) W' D e D' e' E f E' f')
    COf CWd
    (fun W' hb => rsign_h (QX W' hb) (by decide) rfl)
    (fun W' hb => rcmp_h (QX W' hb) (QY W' hb) (by decide) (by decide)) (fun W' D e D' e' E f E' f' g1 g2 g3 g4 => rqcmp_c bx by_ (by decide) g1 g2 g3 g4 (cmpR_diff x y).symm)
    (fun W' hb => (rneg_h (QX W' hb) (by decide) (by decide)).mono fun _ _ g => qrv_of rfl g) (fun W' D e D' e' g1 g2 => rqneg_c g1 g2 rfl) (QIS bx.neg (by decide))
    (fun W' hb => (radd_h (QX W' hb) (QY W' hb) (by decide) (by decide)).mono fun _ _ g => qrv_of rfl g) (fun W' D e D' e' E f E' f' g1 g2 g3 g4 => rqadd_c bx by_ (by decide) g1 g2 g3 g4) (QIS (bx.add by_) (by decide))
    (fun W' hb => (rmul_h (QX W' hb) (QY W' hb) (by decide) (by decide)).mono fun _ _ g => qrv_of rfl g) (fun W' D e D' e' E f E' f' g1 g2 g3 g4 => rqmul_c bx by_ (by decide) g1 g2 g3 g4) (QIS (bx.mul by_) (by decide))
    (fun W' hb => (floor_h (v := x.floor) (QX W' hb) (by decide) (by decide) rfl).mono fun _ _ g => zrs_f g) (fun W' D e D' e' g1 g2 => rqfloor_h g1 g2 x.den_pos (Nat.le_trans (dq_words bx.1) (by decide)) (Nat.le_trans (dq_words bx.2) (by decide)) (Rat.floor_def x).symm rfl)
    (fun W' D e D' e' g1 g2 => zis3_h g1 g2.1 bf)
    (fun W' hb => (rtext_h (QX W' hb) (by decide) (by decide)).mono fun _ _ g => tx g) (fun W' D e D' e' g1 g2 => (rqtext_c bx (by decide) g1 g2).mono fun _ _ g => tx g)
    (decide_eq_false (by omega)) (decide_eq_false (by omega)) (decide_eq_false (by omega)) hok hth
set_option maxHeartbeats 4000000 in
theorem rsays_long1 (w : World) (h : ¬ (l0 ≤ 12 ∧ l1 ≤ 12)) :
    Calls Tryz.prog 3 #[.agg #[.bool b0, .slice A0 l0 c0, .slice A1 l1 c1], .agg #[.bool b1, .slice A2 l2 c2, .slice A3 l3 c3], .string s, .int .i64 k] w fun e w' => e = .returned (.bool true) ∧ Below w.heap.size w w' := by
  have CLa : Hid (∀ W', Calls Tryz.prog 7 #[.agg #[.bool b0, .slice A0 l0 c0, .slice A1 l1 c1]] W' (BoolR W' true)) := fun W' => rlong_n h
  clear h
  have HB := Bel.refl w
  go_enter Tryz.func3, Tryz.ntmps3
  go_wp2_with (first | (go_at_call 6; (with_reducible refine (awake3_any _).mono ?_); rintro e w1 ⟨rfl, hbk⟩; have HA := At.up ((at_new0 _ _ _).al _) hbk; replace HB := ((HB.al _).al _).up hbk; have ha_0 := HA.c0; have ha_1 := HA.c1; have ha_2 := HA.c2; have ha_l := HA.lt) | (go_at_call 7; (with_reducible refine (CLa.out _).mono ?_); rintro e w2 ⟨rfl, hbk⟩; replace HB := HB.up hbk) | fail)
  go_ret
  exact ⟨rfl, HB⟩
set_option maxHeartbeats 4000000 in
theorem rsays_long2 {f : Bool} (w : World) (h0 : l0 ≤ 12 ∧ l1 ≤ 12) (h1 : (¬ (l2 ≤ 12 ∧ l3 ≤ 12) ∧ f = true) ∨ ((l2 ≤ 12 ∧ l3 ≤ 12) ∧ f = false ∧ (¬ s.size ≤ 60 ∨ (s.size ≤ 60 ∧ (5 < k ∨ k < -5))))) :
    Calls Tryz.prog 3 #[.agg #[.bool b0, .slice A0 l0 c0, .slice A1 l1 c1], .agg #[.bool b1, .slice A2 l2 c2, .slice A3 l3 c3], .string s, .int .i64 k] w fun e w' => e = .returned (.bool true) ∧ Below w.heap.size w w' := by
  have CLa : Hid (∀ W', Calls Tryz.prog 7 #[.agg #[.bool b0, .slice A0 l0 c0, .slice A1 l1 c1]] W' (BoolR W' false)) := fun W' => rlong_h h0.1 h0.2
  have CLb : Hid (∀ W', Calls Tryz.prog 7 #[.agg #[.bool b1, .slice A2 l2 c2, .slice A3 l3 c3]] W' (BoolR W' f)) := fun W' => by
    rcases h1 with ⟨h1, rfl⟩ | ⟨h1, rfl, _⟩
    · exact rlong_n h1
    · exact rlong_h h1.1 h1.2
  have hS : f = true ∨ (f = false ∧ decide ((60 : Int) < (s.size : Int)) = true) ∨ (f = false ∧ decide ((60 : Int) < (s.size : Int)) = false ∧ decide (5 < k) = true) ∨ (f = false ∧ decide ((60 : Int) < (s.size : Int)) = false ∧ decide (5 < k) = false ∧ decide (k < -5) = true) := by
    rcases h1 with ⟨_, rfl⟩ | ⟨_, rfl, h2 | ⟨h2, h3⟩⟩
    · exact .inl rfl
    · exact .inr (.inl ⟨rfl, decide_eq_true (by omega)⟩)
    · by_cases h4 : 5 < k
      · exact .inr (.inr (.inl ⟨rfl, decide_eq_false (by omega), decide_eq_true h4⟩))
      · exact .inr (.inr (.inr ⟨rfl, decide_eq_false (by omega), decide_eq_false h4, decide_eq_true (by omega)⟩))
  clear h0 h1
  have HB := Bel.refl w
  rcases hS with rfl | ⟨rfl, hS⟩ | ⟨rfl, hS, hS2⟩ | ⟨rfl, hS, hS2, hS3⟩ <;>
  (go_enter Tryz.func3, Tryz.ntmps3
   go_wp2_with (first | (go_at_call 6; (with_reducible refine (awake3_any _).mono ?_); rintro e w1 ⟨rfl, hbk⟩; have HA := At.up ((at_new0 _ _ _).al _) hbk; have HC := At.up (at_new1 _ _ _ _) hbk; replace HB := ((HB.al _).al _).up hbk; have ha_0 := HA.c0; have ha_1 := HA.c1; have ha_2 := HA.c2; have ha_l := HA.lt; have hc_0 := HC.c0; have hc_1 := HC.c1; have hc_2 := HC.c2; have hc_l := HC.lt) | (go_at_call 7; (with_reducible refine (CLa.out _).mono ?_); rintro e w2 ⟨rfl, hbk⟩; replace HC := HC.up hbk; replace HB := HB.up hbk; clear ha_0 ha_1 ha_2 ha_l hc_0 hc_1 hc_2 hc_l; have hc_0 := HC.c0; have hc_1 := HC.c1; have hc_2 := HC.c2; have hc_l := HC.lt) | (go_at_call 7; (with_reducible refine (CLb.out _).mono ?_); rintro e w3 ⟨rfl, hbk⟩; replace HB := HB.up hbk) | fail)
   go_ret
   exact ⟨rfl, HB⟩)
theorem rsays_walk (w : World) (h0 : l0 = z0.length ∧ l0 ≤ c0 ∧ Rd U32 w w.heap.size A0 z0 ∧ Good32 z0) (h1 : l1 = z1.length ∧ l1 ≤ c1 ∧ Rd U32 w w.heap.size A1 z1 ∧ Good32 z1)
    (h2 : l2 = z2.length ∧ l2 ≤ c2 ∧ Rd U32 w w.heap.size A2 z2 ∧ Good32 z2) (h3 : l3 = z3.length ∧ l3 ≤ c3 ∧ Rd U32 w w.heap.size A3 z3 ∧ Good32 z3)
    (_ : s.size ≤ maxLen) (_ : -9223372036854775808 ≤ k ∧ k ≤ 9223372036854775807) :
    Calls Tryz.prog 3 #[.agg #[.bool b0, .slice A0 l0 c0, .slice A1 l1 c1], .agg #[.bool b1, .slice A2 l2 c2, .slice A3 l3 c3], .string s, .int .i64 k] w fun e w' => e = .returned (.bool true) ∧ Below w.heap.size w w' := by
  by_cases la : l0 ≤ 12 ∧ l1 ≤ 12
  · by_cases lb : l2 ≤ 12 ∧ l3 ≤ 12
    · by_cases hs : s.size ≤ 60
      · by_cases hk : -5 ≤ k ∧ k ≤ 5
        · exact rsays_main w h0 h1 h2 h3 la lb hs hk
        · exact rsays_long2 w la (.inr ⟨lb, rfl, .inr ⟨hs, by omega⟩⟩)
      · exact rsays_long2 w la (.inr ⟨lb, rfl, .inl hs⟩)
    · exact rsays_long2 w la (.inl ⟨lb, rfl⟩)
  · exact rsays_long1 w la
end
end Go.Proofs.YtfcamfkimnlfgaaGreatDoor
