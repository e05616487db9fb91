/- NumSays: the walk from its calls. No conditions. -/
import Derived.Test.YteahcbeohopdlaaDoorNsy
import Derived.Test.YteahcbeohopdlaaDoorNsn
open Go.RowKit
set_option maxRecDepth 100000
namespace Go.Proofs.YteahcbeohopdlaaDoor
theorem numL_dl2 {l : List UInt8} (hd : digB l = true) : dl (numL l) ≤ l.length + 1 := by
  have h1 := numL_lt l (by unfold digB at hd; rw [Bool.and_eq_true] at hd; exact hd.2)
  refine dl_le (k := l.length + 1) (Nat.lt_of_lt_of_le h1 ?_)
  rw [Nat.pow_succ]
  exact Nat.le_trans (Nat.pow_le_pow_left (show 10 ≤ W32 by decide) _) (Nat.le_mul_of_pos_right _ (by decide))
theorem zrn_of {W : World} {s : Bool} {z : Int} {e : Ending} {w' : World} (hs : s = decide (z < 0)) (h : ZR W z e w') : ZRn W s z e w' := by rw [hs]; exact h
theorem zpy_of {W : World} {s : Bool} {z : Int} {e : Ending} {w' : World} (hs : s = decide (z < 0)) (h : ZPR W z e w') : ZPy W s z e w' := by rw [hs]; exact h
theorem rpy_of {W : World} {s : Bool} {z : Int} {e : Ending} {w' : World} (hs : s = decide (z < 0)) (h : RzY W z e w') : RPy W s z e w' := by rw [hs]; exact h
theorem rzv_of {W : World} {s : Bool} {z : Int} {e : Ending} {w' : World} (hs : s = decide (z < 0)) (h : RZ W z e w') : RZv W s z e w' := by
  obtain ⟨A, c, he, h1, hb⟩ := h
  rw [hs]
  exact ⟨A, c, he, ⟨h1, rfl⟩, hb⟩
section
variable {s : ByteArray}
/-- A text is read by both, as one number, or by none. -/
theorem nparse_two (hs : s.size ≤ 200) :
    (∃ p sp, sp = decide (p < 0) ∧ dl p.natAbs < 4000 ∧ (∀ W', Calls Tryd.prog 17 #[.string s] W' (ZPy W' sp p)) ∧ (∀ W', Calls Tryd.prog 18 #[.string s] W' (RPy W' sp p))) ∨
    ((∀ W', Calls Tryd.prog 17 #[.string s] W' (ZPN W')) ∧ (∀ W', Calls Tryd.prog 18 #[.string s] W' (RzN W'))) := by
  by_cases hm : s.data.toList.head? = some 45
  · obtain ⟨l, h⟩ : ∃ l, s.data.toList = 45 :: l := by
      cases e : s.data.toList with
      | nil => rw [e] at hm; cases hm
      | cons a l => rw [e] at hm; injection hm with hm; exact ⟨l, by rw [hm]⟩
    have hl : l.length ≤ 200 := by have := congrArg List.length h; rw [← size_list, List.length_cons] at this; omega
    by_cases hd : digB l = true
    · have hb := numL_dl2 hd
      exact .inl ⟨zi true (numL l), _, rfl, by rw [zi_abs]; omega, fun W' => (zparse_h (b := true) (l := l) (by omega) h (by intro h; cases h) hd rfl).mono fun _ _ h => zpy_of rfl h, fun W' => (rzparse_minus _ (by omega) h hd rfl).mono fun _ _ h => rpy_of rfl h⟩
    · exact .inr ⟨fun W' => zparse_n (b := true) (l := l) (by omega) h (by intro h; cases h) hd, fun W' => rzparse_minus_no (by omega) h hd⟩
  · by_cases hd : digB s.data.toList = true
    · have hb := numL_dl2 hd
      rw [← size_list] at hb
      exact .inl ⟨zi false (numL s.data.toList), _, rfl, by rw [zi_abs]; omega, fun W' => (zparse_h (b := false) (l := s.data.toList) (by omega) rfl (fun _ => hm) hd rfl).mono fun _ _ h => zpy_of rfl h, fun W' => (rzparse_plain _ (by omega) hm hd rfl).mono fun _ _ h => rpy_of rfl h⟩
    · exact .inr ⟨fun W' => zparse_n (b := false) (l := s.data.toList) (by omega) rfl (fun _ => hm) hd, fun W' => rzparse_plain_no (by omega) hm hd⟩
end
theorem ndiv_two {w : World} {b0 b1 : Bool} {A0 A1 : Option Addr} {l0 c0 l1 c1 : Nat} {x y q r : Int} (ZX : ∀ W', Bel w W' → ZA W' b0 A0 l0 c0 x) (ZY : ∀ W', Bel w W' → ZA W' b1 A1 l1 c1 y) (dx : dl x.natAbs ≤ 24) (hq : x / y = q) (hr : x % y = r) :
    ∃ k, (∀ W', Bel w W' → Calls Tryd.prog 13 #[.agg #[.bool b0, .slice A0 l0 c0], .agg #[.bool b1, .slice A1 l1 c1]] W' (ZDw W' k (decide (q < 0)) (decide (r < 0)) q r)) ∧ (k = true → y ≠ 0) ∧ (!(k == (y.sign != 0))) = false := by
  by_cases hy : y = 0
  · exact ⟨false, fun W' hb => (zdiv_no (ZX W' hb) (ZY W' hb) hy).mono fun _ _ h => ⟨false, none, 0, 0, false, none, 0, 0, h.1, (fun h => by cases h), h.2⟩, (fun h => by cases h), by rw [hy]; rfl⟩
  · refine ⟨true, fun W' hb => (zdiv_h (ZX W' hb) (ZY W' hb) hy (by omega) hq hr).mono fun _ _ ⟨A, c, A', c', he, z1, z2, hb⟩ => ⟨_, A, _, c, _, A', _, c', he, fun _ => ⟨rfl, rfl, rfl, rfl, z1, z2⟩, hb⟩, fun _ => hy, ?_⟩
    have h1 : y.sign ≠ 0 := fun h => hy (Int.sign_eq_zero_iff_zero.1 h)
    rw [bne_iff_ne.2 h1]
    rfl
theorem nsays_main {b0 b1 : Bool} {A0 A1 : Option Addr} {l0 c0 l1 c1 : Nat} {z0 z1 : List Nat} {n : Int} {s : ByteArray} (w : World) (w0 : l0 = z0.length ∧ l0 ≤ c0 ∧ Rd U32 w w.heap.size A0 z0 ∧ Good32 z0) (w1 : l1 = z1.length ∧ l1 ≤ c1 ∧ Rd U32 w w.heap.size A1 z1 ∧ Good32 z1)
    (hn : -9223372036854775808 ≤ n ∧ n ≤ 9223372036854775807) (h0 : l0 ≤ 24) (h1 : l1 ≤ 24) (hs : s.size ≤ 200) :
    Calls Tryd.prog 3 #[.agg #[.bool b0, .slice A0 l0 c0], .agg #[.bool b1, .slice A1 l1 c1], .int .i64 n, .string s] w fun e w' => e = .returned (.bool true) ∧ Below w.heap.size w w' := by
  obtain ⟨x, hx⟩ : ∃ x, zi b0 (val W32 z0) = x := ⟨_, rfl⟩
  obtain ⟨y, hy⟩ : ∃ y, zi b1 (val W32 z1) = y := ⟨_, rfl⟩
  have ZX : ∀ W', Bel w W' → ZA W' b0 A0 l0 c0 x := fun W' hb => by rw [← hx]; exact za_of (nm_later (later_of w0 (by omega)) hb)
  have ZY : ∀ W', Bel w W' → ZA W' b1 A1 l1 c1 y := fun W' hb => by rw [← hy]; exact za_of (nm_later (later_of w1 (by omega)) hb)
  have dx : dl x.natAbs ≤ 24 := by rw [← hx, zi_abs]; exact dl_le (val_lt24 w0.2.2.2 w0.1 h0)
  have dy : dl y.natAbs ≤ 24 := by rw [← hy, zi_abs]; exact dl_le (val_lt24 w1.2.2.2 w1.1 h1)
  have bx := dl_pow dx
  have by_ := dl_pow dy
  have qx : dq x.natAbs ≤ 72 := dq_words bx
  have qy : dq y.natAbs ≤ 72 := dq_words by_
  have HM : ∀ W' W'', Bel w W' → Bel W' W'' → Bel w W'' := fun W' W'' h1 h2 => h1.up h2
  have CO0 : ∀ W', Bel w W' → Calls Tryd.prog 12 #[.agg #[.bool b0, .slice A0 l0 c0]] W' (RZv W' (decide (x < 0)) x) := fun W' hb => own2_h (fun W'' hb' => Words_any w0.1 ((w0.2.2.1.below (HM _ _ hb hb')).more (Below.size (HM _ _ hb hb'))) w0.2.2.2 (by omega)) hx
  have CO1 : ∀ W', Bel w W' → Calls Tryd.prog 12 #[.agg #[.bool b1, .slice A1 l1 c1]] W' (RZv W' (decide (y < 0)) y) := fun W' hb => own2_h (fun W'' hb' => Words_any w1.1 ((w1.2.2.1.below (HM _ _ hb hb')).more (Below.size (HM _ _ hb hb'))) w1.2.2.2 (by omega)) hy
  obtain ⟨q, hq⟩ : ∃ q, x / y = q := ⟨_, rfl⟩
  obtain ⟨r, hr⟩ : ∃ r, x % y = r := ⟨_, rfl⟩
  obtain ⟨k, CD, hk, hkk⟩ := ndiv_two ZX ZY dx hq hr
  have hr0 : y ≠ 0 → 0 ≤ r := fun h => by rw [← hr]; exact Int.emod_nonneg _ h
  have dq_ : dl q.natAbs < 4000 := by
    have : q.natAbs ≤ x.natAbs := by rw [← hq]; exact Int.natAbs_ediv_le_natAbs x y
    have := dl_mono this
    omega
  have dr_ : y ≠ 0 → dl r.natAbs < 4000 := fun h => by
    have h2 : r.natAbs < y.natAbs := by
      have h3 := hr0 h
      rcases Int.lt_or_gt_of_ne h with h1 | h1
      · have h2 := Int.emod_lt_of_pos x (show 0 < -y by omega)
        rw [Int.emod_neg, hr] at h2
        omega
      · have h2 := Int.emod_lt_of_pos x h1
        rw [hr] at h2
        omega
    have := dl_mono (Nat.le_of_lt h2)
    omega
  obtain ⟨v1, hv1⟩ : ∃ v, x + y = v := ⟨_, rfl⟩
  obtain ⟨v2, hv2⟩ : ∃ v, x * y = v := ⟨_, rfl⟩
  obtain ⟨v3, hv3⟩ : ∃ v, -x = v := ⟨_, rfl⟩
  have d1 : dl v1.natAbs ≤ 25 := by
    refine dl_le ?_
    have h3 : v1.natAbs ≤ x.natAbs + y.natAbs := by rw [← hv1]; exact Int.natAbs_add_le x y
    have h4 : W32 ^ 24 * 2 ≤ W32 ^ 25 := Nat.mul_le_mul_left _ (by decide)
    omega
  have d2 : dl v2.natAbs ≤ 48 := by
    refine dl_le ?_
    rw [← hv2, Int.natAbs_mul, show (48 : Nat) = 24 + 24 from rfl, Nat.pow_add]
    exact Nat.mul_lt_mul'' bx by_
  have d3 : dl v3.natAbs ≤ 24 := by rw [← hv3, Int.natAbs_neg]; exact dx
  have d4 : dl n.natAbs ≤ 2 := dl_small2 (by omega)
  obtain ⟨g, v, kl, CGn, CGa, hkl, HG⟩ := zgd_all (b := b0) w0 h0
  have hS : decide ((200 : Int) < (s.size : Int)) = false := decide_eq_false (by omega)
  have CRD : ∀ W' D e D' e', k = true → Rz W' (decide (x < 0)) D e x → Rz W' (decide (y < 0)) D' e' y → Calls Tryd.prog 15 #[.agg #[.bool (decide (x < 0)), .slice D (dq x.natAbs) e], .agg #[.bool (decide (y < 0)), .slice D' (dq y.natAbs) e']] W' (RDw W' (decide (q < 0)) (decide (r < 0)) q r) := fun W' D e D' e' hk' rx ry => by
    have h3 : decide (r < 0) = false := decide_eq_false (by have := hr0 (hk hk'); omega)
    refine (rzdiv_h rx ry (hk hk') (by omega) (by omega) hq hr rfl).mono fun _ _ ⟨A, c, A', c', he, n1, n2, hb⟩ => ⟨A, c, A', c', ?_, ⟨n1, rfl⟩, ⟨n2, rfl⟩, hb⟩
    rw [he, h3]
  have CIq : ∀ W' D e D' e', k = true → ZA W' (decide (q < 0)) D (dl q.natAbs) e q → Rz W' (decide (q < 0)) D' e' q → Calls Tryd.prog 16 #[.agg #[.bool (decide (q < 0)), .slice D (dl q.natAbs) e], .agg #[.bool (decide (q < 0)), .slice D' (dq q.natAbs) e']] W' (BoolR W' true) := fun W' D e D' e' _ h1 h2 => zis_s rfl dq_ h1 h2
  have CIr : ∀ W' D e D' e', k = true → ZA W' (decide (r < 0)) D (dl r.natAbs) e r → Rz W' (decide (r < 0)) D' e' r → Calls Tryd.prog 16 #[.agg #[.bool (decide (r < 0)), .slice D (dl r.natAbs) e], .agg #[.bool (decide (r < 0)), .slice D' (dq r.natAbs) e']] W' (BoolR W' true) := fun W' D e D' e' h h1 h2 => zis_s rfl (dr_ (hk h)) h1 h2
  have ZIS : ∀ {z : Int}, dl z.natAbs < 4000 → ∀ W' D e D' e', ZA W' (decide (z < 0)) D (dl z.natAbs) e z → Rz W' (decide (z < 0)) D' e' z → Calls Tryd.prog 16 #[.agg #[.bool (decide (z < 0)), .slice D (dl z.natAbs) e], .agg #[.bool (decide (z < 0)), .slice D' (dq z.natAbs) e']] W' (BoolR W' true) := fun hz W' D e D' e' h1 h2 => zis_s rfl hz h1 h2
  rcases nparse_two hs with ⟨p, sp, rfl, dp, CP, CR⟩ | ⟨CP, CR⟩
  · exact nsays_y w (fun W' => long_h h0) (fun W' => long_h h1) CO0 CO1 CD (fun W' D e ry => rzsign_h ry rfl) CRD CIq CIr CP CR (ZIS dp)
      (fun W' hb => sign_h (ZX W' hb) rfl) (fun W' D e rx => rzsign_h rx rfl)
      (fun W' hb => zcmp_h (ZX W' hb) (ZY W' hb) rfl) (fun W' D e D' e' rx ry => rzcmp_h rx ry (by omega) (by omega) rfl)
      (fun W' hb => (zadd_h (ZX W' hb) (ZY W' hb) hv1 (by omega)).mono fun _ _ h => zrn_of rfl h) (fun W' D e D' e' rx ry => rzadd_h rx ry (by omega) (by omega) rfl hv1.symm) (ZIS (by omega))
      (fun W' hb => (zmul_h (ZX W' hb) (ZY W' hb) hv2 (by omega)).mono fun _ _ h => zrn_of rfl h) (fun W' D e D' e' rx ry => rzmul_h rx ry (by omega) (by omega) rfl hv2.symm) (ZIS (by omega))
      (fun W' hb => (zneg_h (ZX W' hb) hv3).mono fun _ _ h => zrn_of rfl h) (fun W' D e rx => rzneg_h rx rfl hv3.symm) (ZIS (by omega))
      (fun W' hb => (ztext_h (ZX W' hb)).mono fun _ _ h => strk_of h) (fun W' D e rx => (rztext_h rx (by omega)).mono fun _ _ h => strk_of h)
      (fun W' => (zof_h hn.1 hn.2).mono fun _ _ h => zrn_of rfl h) (fun W' => (zint_h hn.1 hn.2).mono fun _ _ h => rzv_of rfl h) (ZIS (by omega))
      CGa CGn hS hkk hkl HG
  · exact nsays_n w (fun W' => long_h h0) (fun W' => long_h h1) CO0 CO1 CD (fun W' D e ry => rzsign_h ry rfl) CRD CIq CIr CP CR
      (fun W' hb => sign_h (ZX W' hb) rfl) (fun W' D e rx => rzsign_h rx rfl)
      (fun W' hb => zcmp_h (ZX W' hb) (ZY W' hb) rfl) (fun W' D e D' e' rx ry => rzcmp_h rx ry (by omega) (by omega) rfl)
      (fun W' hb => (zadd_h (ZX W' hb) (ZY W' hb) hv1 (by omega)).mono fun _ _ h => zrn_of rfl h) (fun W' D e D' e' rx ry => rzadd_h rx ry (by omega) (by omega) rfl hv1.symm) (ZIS (by omega))
      (fun W' hb => (zmul_h (ZX W' hb) (ZY W' hb) hv2 (by omega)).mono fun _ _ h => zrn_of rfl h) (fun W' D e D' e' rx ry => rzmul_h rx ry (by omega) (by omega) rfl hv2.symm) (ZIS (by omega))
      (fun W' hb => (zneg_h (ZX W' hb) hv3).mono fun _ _ h => zrn_of rfl h) (fun W' D e rx => rzneg_h rx rfl hv3.symm) (ZIS (by omega))
      (fun W' hb => (ztext_h (ZX W' hb)).mono fun _ _ h => strk_of h) (fun W' D e rx => (rztext_h rx (by omega)).mono fun _ _ h => strk_of h)
      (fun W' => (zof_h hn.1 hn.2).mono fun _ _ h => zrn_of rfl h) (fun W' => (zint_h hn.1 hn.2).mono fun _ _ h => rzv_of rfl h) (ZIS (by omega))
      CGa CGn hS hkk hkl HG
set_option maxHeartbeats 4000000 in
theorem nsays_long1 {b0 : Bool} {A0 : Option Addr} {l0 c0 : Nat} {vb : Bool} {A1 : Option Addr} {l1 c1 : Nat} {n : Int} {s : ByteArray} (w : World) (h0 : ¬ l0 ≤ 24) :
    Calls Tryd.prog 3 #[.agg #[.bool b0, .slice A0 l0 c0], .agg #[.bool vb, .slice A1 l1 c1], .int .i64 n, .string s] w fun e w' => e = .returned (.bool true) ∧ Below w.heap.size w w' := by
  have CLa : Hid (∀ W', Calls Tryd.prog 11 #[.agg #[.bool b0, .slice A0 l0 c0]] W' (BoolR W' true)) := fun W' => long_n h0
  clear h0
  have HB := Bel.refl w
  go_enter Tryd.func3, Tryd.ntmps3
  go_wp2_with (first | (go_at_call 10; (with_reducible refine (awake2_any _).mono ?_); rintro e w1 ⟨rfl, hbk⟩; have HA := At.up ((at_new0 _ _ _).al _) hbk; replace HB := ((HB.al _).al _).up hbk; have ha_0 := HA.c0; have ha_1 := HA.c1; have ha_l := HA.lt) | (go_at_call 11; (with_reducible refine (CLa.out _).mono ?_); rintro e w2 ⟨rfl, hbk⟩; replace HB := HB.up hbk) | fail)
  go_ret
  exact ⟨rfl, HB⟩
set_option maxHeartbeats 4000000 in
theorem nsays_long2 {b0 b1 : Bool} {A0 A1 : Option Addr} {l0 c0 l1 c1 : Nat} {n : Int} {s : ByteArray} {f : Bool} (w : World) (h0 : l0 ≤ 24) (h1 : (¬ l1 ≤ 24 ∧ f = true) ∨ (l1 ≤ 24 ∧ f = false ∧ ¬ s.size ≤ 200)) :
    Calls Tryd.prog 3 #[.agg #[.bool b0, .slice A0 l0 c0], .agg #[.bool b1, .slice A1 l1 c1], .int .i64 n, .string s] w fun e w' => e = .returned (.bool true) ∧ Below w.heap.size w w' := by
  have CLa : Hid (∀ W', Calls Tryd.prog 11 #[.agg #[.bool b0, .slice A0 l0 c0]] W' (BoolR W' false)) := fun W' => long_h h0
  have CLb : Hid (∀ W', Calls Tryd.prog 11 #[.agg #[.bool b1, .slice A1 l1 c1]] W' (BoolR W' f)) := fun W' => by
    rcases h1 with ⟨h1, rfl⟩ | ⟨h1, rfl, _⟩
    · exact long_n h1
    · exact long_h h1
  have hS : f = true ∨ (f = false ∧ decide ((200 : Int) < (s.size : Int)) = true) := by
    rcases h1 with ⟨_, rfl⟩ | ⟨_, rfl, h2⟩
    · exact .inl rfl
    · exact .inr ⟨rfl, decide_eq_true (by omega)⟩
  clear h0 h1
  have HB := Bel.refl w
  rcases hS with rfl | ⟨rfl, hS⟩ <;>
  (go_enter Tryd.func3, Tryd.ntmps3
   go_wp2_with (first | (go_at_call 10; (with_reducible refine (awake2_any _).mono ?_); rintro e w1 ⟨rfl, hbk⟩; have HA := At.up ((at_new0 _ _ _).al _) hbk; have HC := At.up (at_new1 _ _ _ _) hbk; replace HB := ((HB.al _).al _).up hbk; have ha_0 := HA.c0; have ha_1 := HA.c1; have ha_l := HA.lt; have hc_0 := HC.c0; have hc_1 := HC.c1; have hc_l := HC.lt) | (go_at_call 11; (with_reducible refine (CLa.out _).mono ?_); rintro e w2 ⟨rfl, hbk⟩; replace HC := HC.up hbk; replace HB := HB.up hbk; clear ha_0 ha_1 ha_l hc_0 hc_1 hc_l; have hc_0 := HC.c0; have hc_1 := HC.c1; have hc_l := HC.lt) | (go_at_call 11; (with_reducible refine (CLb.out _).mono ?_); rintro e w3 ⟨rfl, hbk⟩; replace HB := HB.up hbk) | fail)
   go_ret
   exact ⟨rfl, HB⟩)
theorem nsays_walk {b0 b1 : Bool} {A0 A1 : Option Addr} {l0 c0 l1 c1 : Nat} {z0 z1 : List Nat} {n : Int} {s : ByteArray} (w : World) (w0 : l0 = z0.length ∧ l0 ≤ c0 ∧ Rd U32 w w.heap.size A0 z0 ∧ Good32 z0) (w1 : l1 = z1.length ∧ l1 ≤ c1 ∧ Rd U32 w w.heap.size A1 z1 ∧ Good32 z1)
    (hn : -9223372036854775808 ≤ n ∧ n ≤ 9223372036854775807) (_ : s.size ≤ maxLen) :
    Calls Tryd.prog 3 #[.agg #[.bool b0, .slice A0 l0 c0], .agg #[.bool b1, .slice A1 l1 c1], .int .i64 n, .string s] w fun e w' => e = .returned (.bool true) ∧ Below w.heap.size w w' := by
  by_cases h0 : l0 ≤ 24
  · by_cases h1 : l1 ≤ 24
    · by_cases hs : s.size ≤ 200
      · exact nsays_main w w0 w1 hn h0 h1 hs
      · exact nsays_long2 w h0 (.inr ⟨h1, rfl, hs⟩)
    · exact nsays_long2 w h0 (.inl ⟨h1, rfl⟩)
  · exact nsays_long1 w h0
end Go.Proofs.YteahcbeohopdlaaDoor
