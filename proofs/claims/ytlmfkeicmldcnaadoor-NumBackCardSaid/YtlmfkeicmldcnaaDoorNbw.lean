/- NumBack's walk. No conditions. -/
import Derived.Test.YtlmfkeicmldcnaaDoorAv
open Go.RowKit
set_option maxRecDepth 100000
namespace Go.Proofs.YtlmfkeicmldcnaaDoor
theorem head_dec (m : Nat) : (decL m).head? ≠ some 45 := by
  intro h
  have h1 := (numL_decL m).2
  unfold digB at h1
  rw [Bool.and_eq_true] at h1
  cases hl : decL m with
  | nil => rw [hl] at h; cases h
  | cons x xs =>
    rw [hl] at h h1
    injection h with h
    subst h
    have := h1.2
    rw [List.all_cons, Bool.and_eq_true] at this
    exact absurd this.1 (by decide)
theorem zparse_back {t : ByteArray} {z : Int} (W : World) (ht : t.data.toList = decZ z) (hl : (decL z.natAbs).length ≤ 99990) : Calls Tryd.prog 38 #[.string t] W (ZPR W z) := by
  have h1 := numL_decL z.natAbs
  by_cases hn : z < 0
  · have e : t.data.toList = (if true then [45] else []) ++ decL z.natAbs := by rw [ht]; unfold decZ; rw [if_pos hn]; rfl
    exact zparse_h (by rw [size_list, e]; simp; omega) e (by intro h; cases h) h1.2 (by rw [h1.1, zi_true]; omega)
  · have e : t.data.toList = (if false then [45] else []) ++ decL z.natAbs := by rw [ht]; unfold decZ; rw [if_neg hn]; rfl
    exact zparse_h (by rw [size_list, e]; simp; omega) e (fun _ => head_dec _) h1.2 (by rw [h1.1, zi_false]; omega)
theorem cmpZ_sign (z z' : Int) : (z + -z').sign = cmpZ z z' := by
  unfold cmpZ
  rcases Int.lt_trichotomy z z' with h | h | h
  · rw [if_pos h]; exact Int.sign_eq_neg_one_of_neg (by omega)
  · subst h; rw [if_neg (by omega), if_neg (by omega), Int.add_right_neg]; rfl
  · rw [if_neg (by omega), if_pos h]; exact Int.sign_eq_one_of_pos (by omega)
theorem sign_bd (z : Int) : -1 ≤ z.sign ∧ z.sign ≤ 1 := by
  rcases Int.lt_trichotomy z 0 with h | h | h
  · rw [Int.sign_eq_neg_one_of_neg h]; omega
  · subst h; decide
  · rw [Int.sign_eq_one_of_pos h]; omega
set_option maxHeartbeats 16000000 in
theorem nback_main {b b' : Bool} {A A' : Option Addr} {n n' c c' : Nat} {z z' : Int} (w : World) (h : ZLater w b A n c z) (h' : ZLater w b' A' n' c' z') (hn : n ≤ 24) (hn' : n' ≤ 24) (hd : dl z.natAbs ≤ 24) (hd' : dl z'.natAbs ≤ 24) :
    Calls Tryd.prog 11 #[.agg #[.bool b, .slice A n c], .agg #[.bool b', .slice A' n' c']] w fun e w' => e = .returned (.bool true) ∧ Below w.heap.size w w' := by
  have CLa := hide (fun W => long_h (W := W) (b := b) (A := A) (c := c) hn)
  have CLb := hide (fun W => long_h (W := W) (b := b') (A := A') (c := c') hn')
  have p1 := dl_pow hd
  have p2 := dl_pow hd'
  have h25 : W32 ^ 24 * 2 ≤ W32 ^ 25 := Nat.mul_le_mul_left _ (by decide)
  obtain ⟨y, hy⟩ : ∃ y, -z = y := ⟨_, rfl⟩
  obtain ⟨yb, hyb⟩ : ∃ y, -z' = y := ⟨_, rfl⟩
  obtain ⟨u, hu⟩ : ∃ u, z + yb = u := ⟨_, rfl⟩
  obtain ⟨p, hp⟩ : ∃ p, z * z' = p := ⟨_, rfl⟩
  obtain ⟨o, ho⟩ : ∃ o : Int, z + y = o := ⟨_, rfl⟩
  have ho0 : o = 0 := by omega
  have hpd : dl p.natAbs ≤ 100000 := by
    have h3 : p.natAbs < W32 ^ (24 + 24) := by
      rw [← hp, Int.natAbs_mul, Nat.pow_add]
      rcases Nat.eq_zero_or_pos z'.natAbs with e | e
      · rw [e, Nat.mul_zero]; exact Nat.mul_pos (Nat.pow_pos (by decide)) (Nat.pow_pos (by decide))
      · exact Nat.lt_of_lt_of_le (Nat.mul_lt_mul_of_pos_right p1 e) (Nat.mul_le_mul_left _ (Nat.le_of_lt p2))
    exact Nat.le_trans (dl_le h3) (by omega)
  have hud : dl u.natAbs ≤ 100000 := Nat.le_trans (dl_le (k := 25) (by omega)) (by omega)
  have hlen : (decL z.natAbs).length ≤ 99990 := Nat.le_trans (dt_le (k := 240) (Nat.lt_of_lt_of_le p1 (by decide)) (by omega)) (by omega)
  obtain ⟨v, hv⟩ : ∃ v, cmpZ z z' = v := ⟨_, rfl⟩
  obtain ⟨v', hv'⟩ : ∃ v, cmpZ z' z = v := ⟨_, rfl⟩
  have hvs : (v = -1 ∧ v' = 1) ∨ (v = 0 ∧ v' = 0) ∨ (v = 1 ∧ v' = -1) := by
    subst hv; subst hv'; unfold cmpZ
    rcases Int.lt_trichotomy z z' with h | h | h
    · left; rw [if_pos h, if_neg (by omega), if_pos h]; exact ⟨rfl, rfl⟩
    · right; left; rw [if_neg (by omega), if_neg (by omega), if_neg (by omega), if_neg (by omega)]; exact ⟨rfl, rfl⟩
    · right; right; rw [if_neg (by omega), if_pos h, if_pos h]; exact ⟨rfl, rfl⟩
  obtain ⟨sa, hsa⟩ : ∃ s, z.sign = s := ⟨_, rfl⟩
  obtain ⟨sb, hsb⟩ : ∃ s, z'.sign = s := ⟨_, rfl⟩
  obtain ⟨sp, hsp⟩ : ∃ s, p.sign = s := ⟨_, rfl⟩
  have hw : IntKind.i64.wrap (sa * sb) = sp := by
    have e : sa * sb = sp := by rw [← hsa, ← hsb, ← hsp, ← hp, Int.sign_mul]
    have := sign_bd p
    rw [e]; exact IntWalk.i64_in _ (by omega)
  have CT : Hid (∀ W, Below w.heap.size w W → Calls Tryd.prog 44 #[.agg #[.bool b, .slice A n c]] W (TxR W (decZ z))) := fun W hb => ztext_h (h W hb)
  have CP : Hid (∀ W (t : ByteArray), Hid (t.data.toList = decZ z) → Calls Tryd.prog 38 #[.string t] W (ZPR W z)) := fun W t ht => zparse_back W ht.out hlen
  have CXa : Hid (∀ W B d, Below w.heap.size w W → ZA W (decide (z < 0)) B (dl z.natAbs) d z → Calls Tryd.prog 43 #[.agg #[.bool (decide (z < 0)), .slice B (dl z.natAbs) d], .agg #[.bool b, .slice A n c]] W (IntPost W 0)) := fun W B d hb hz => zcmp_h hz (h W hb) (by unfold cmpZ; rw [if_neg (by omega), if_neg (by omega)])
  have CZa := CXa
  have CNa : Hid (∀ W, Below w.heap.size w W → Calls Tryd.prog 47 #[.agg #[.bool b, .slice A n c]] W (ZR W y)) := fun W hb => zneg_h (h W hb) hy
  have CNb : Hid (∀ W, Below w.heap.size w W → Calls Tryd.prog 47 #[.agg #[.bool b', .slice A' n' c']] W (ZR W yb)) := fun W hb => zneg_h (h' W hb) hyb
  have CNy : Hid (∀ W B d, ZA W (decide (y < 0)) B (dl y.natAbs) d y → Calls Tryd.prog 47 #[.agg #[.bool (decide (y < 0)), .slice B (dl y.natAbs) d]] W (ZR W z)) := fun W B d hz => zneg_h hz (by omega)
  have CAy : Hid (∀ W B d, Below w.heap.size w W → ZA W (decide (y < 0)) B (dl y.natAbs) d y → Calls Tryd.prog 55 #[.agg #[.bool b, .slice A n c], .agg #[.bool (decide (y < 0)), .slice B (dl y.natAbs) d]] W (ZR W o)) := fun W B d hb hz => zadd_h (h W hb) hz ho (by rw [ho0]; exact Nat.le_trans (dl_small2 (by decide)) (by omega))
  have CSo : Hid (∀ W B d, ZA W (decide (o < 0)) B (dl o.natAbs) d o → Calls Tryd.prog 42 #[.agg #[.bool (decide (o < 0)), .slice B (dl o.natAbs) d]] W (IntPost W 0)) := fun W B d hz => sign_h hz (by rw [ho0]; rfl)
  have CAB : Hid (∀ W, Below w.heap.size w W → Calls Tryd.prog 43 #[.agg #[.bool b, .slice A n c], .agg #[.bool b', .slice A' n' c']] W (IntPost W v)) := fun W hb => zcmp_h (h W hb) (h' W hb) hv
  have CBA : Hid (∀ W, Below w.heap.size w W → Calls Tryd.prog 43 #[.agg #[.bool b', .slice A' n' c'], .agg #[.bool b, .slice A n c]] W (IntPost W v')) := fun W hb => zcmp_h (h' W hb) (h W hb) hv'
  have CAb : Hid (∀ W B d, Below w.heap.size w W → ZA W (decide (yb < 0)) B (dl yb.natAbs) d yb → Calls Tryd.prog 55 #[.agg #[.bool b, .slice A n c], .agg #[.bool (decide (yb < 0)), .slice B (dl yb.natAbs) d]] W (ZR W u)) := fun W B d hb hz => zadd_h (h W hb) hz hu hud
  have CSu : Hid (∀ W B d, ZA W (decide (u < 0)) B (dl u.natAbs) d u → Calls Tryd.prog 42 #[.agg #[.bool (decide (u < 0)), .slice B (dl u.natAbs) d]] W (IntPost W v)) := fun W B d hz => sign_h hz (by rw [← hu, ← hyb, cmpZ_sign]; exact hv)
  have CMp : Hid (∀ W, Below w.heap.size w W → Calls Tryd.prog 57 #[.agg #[.bool b, .slice A n c], .agg #[.bool b', .slice A' n' c']] W (ZR W p)) := fun W hb => zmul_h (h W hb) (h' W hb) hp hpd
  have CSp : Hid (∀ W B d, ZA W (decide (p < 0)) B (dl p.natAbs) d p → Calls Tryd.prog 42 #[.agg #[.bool (decide (p < 0)), .slice B (dl p.natAbs) d]] W (IntPost W sp)) := fun W B d hz => sign_h hz hsp
  have CSa : Hid (∀ W, Below w.heap.size w W → Calls Tryd.prog 42 #[.agg #[.bool b, .slice A n c]] W (IntPost W sa)) := fun W hb => sign_h (h W hb) hsa
  have CSb : Hid (∀ W, Below w.heap.size w W → Calls Tryd.prog 42 #[.agg #[.bool b', .slice A' n' c']] W (IntPost W sb)) := fun W hb => sign_h (h' W hb) hsb
  have HWR := hide hw
  clear h h' hn hn' hd hd' p1 p2 h25 hy hyb hu hp ho ho0 hpd hud hlen hv hv' hsa hsb hsp hw
  rcases hvs with ⟨rfl, rfl⟩ | ⟨rfl, rfl⟩ | ⟨rfl, rfl⟩
  all_goals
    go_enter Tryd.func11, Tryd.ntmps11
    go_wp2_with (first | (go_at_call 37; (with_reducible refine (awake2_any _).mono ?_); rintro e w1 ⟨rfl, hbk⟩; have HA := hide (((zc_new _ _ _ _ _ _).al _).up hbk); have HB := hide ((zc_new1 _ _ _ _ _ _ _).up hbk); have HW := hide ((al2 w _ _).trans (hbk.out.mono (al2 w _ _).size)); have a0 := HA.out.c0; have a1 := HA.out.c1; have b0 := HB.out.c0; have b1 := HB.out.c1; have l1 := HB.out.lt; have l0 := HA.out.lt) | (go_at_call 49; (with_reducible refine (CLa.out _).mono ?_); rintro e w2 ⟨rfl, hbk⟩; replace HA := hide (HA.out.up hbk); replace HB := hide (HB.out.up hbk); replace HW := chain HW hbk.out; clear a0 a1 b0 b1 l0 l1; have a0 := HA.out.c0; have a1 := HA.out.c1; have b0 := HB.out.c0; have b1 := HB.out.c1; have l1 := HB.out.lt; have l0 := HA.out.lt) | (go_at_call 49; (with_reducible refine (CLb.out _).mono ?_); rintro e w3 ⟨rfl, hbk⟩; replace HA := hide (HA.out.up hbk); replace HB := hide (HB.out.up hbk); replace HW := chain HW hbk.out; clear a0 a1 b0 b1 l0 l1; have a0 := HA.out.c0; have a1 := HA.out.c1; have b0 := HB.out.c0; have b1 := HB.out.c1; have l1 := HB.out.lt; have l0 := HA.out.lt) | (go_at_call 44; (with_reducible refine (CT.out _ HW.out).mono ?_); rintro e w4 ⟨t, rfl, ht, hbk⟩; replace HA := hide (HA.out.up hbk); replace HB := hide (HB.out.up hbk); replace HW := chain HW hbk.out; clear a0 a1 b0 b1 l0 l1; have a0 := HA.out.c0; have a1 := HA.out.c1; have b0 := HB.out.c0; have b1 := HB.out.c1; have l1 := HB.out.lt; have l0 := HA.out.lt) | (go_at_call 38; (with_reducible refine (CP.out _ t ht).mono ?_); rintro e w5 ⟨Ax, cx, rfl, zx, hbk⟩; replace HA := hide (HA.out.up hbk); replace HB := hide (HB.out.up hbk); replace HW := chain HW hbk.out; clear a0 a1 b0 b1 l0 l1; have a0 := HA.out.c0; have a1 := HA.out.c1; have b0 := HB.out.c0; have b1 := HB.out.c1; have l1 := HB.out.lt; have l0 := HA.out.lt) | fail)
    clear a0 a1 b0 b1 l0 l1
    obtain ⟨W1, hW1⟩ : ∃ W1, W1 = w5.alloc (.cells #[.bool (decide (z < 0)), .slice Ax (dl z.natAbs) cx] 55) := ⟨_, rfl⟩
    rw [← hW1]
    obtain ⟨q, hq⟩ : ∃ q, q = w5.heap.size := ⟨_, rfl⟩
    replace HA : Hid (Zcell W1.drew w.heap.size b A n c) := by rw [hW1]; exact Zcell.dr (HA.out.al _)
    replace HB : Hid (Zcell W1.drew (w.heap.size + 1) b' A' n' c') := by rw [hW1]; exact Zcell.dr (HB.out.al _)
    have HX : Hid (Zcell W1.drew q (decide (z < 0)) Ax (dl z.natAbs) cx) := by rw [hW1, hq]; exact Zcell.dr (zc_new _ _ _ _ _ _)
    replace zx : ZA W1.drew (decide (z < 0)) Ax (dl z.natAbs) cx z := by rw [hW1]; exact ZA.dr (zx.al _)
    replace HW : Hid (Below w.heap.size w W1.drew) := by rw [hW1]; exact Below.drew (HW.out.alloc HW.out.size _)
    simp only [← hq]
    clear hW1 hq hbk
    have hw := HWR.out
    have kA : IntKind.i64.wrap (-1) = -1 := by decide
    have kB : IntKind.i64.wrap 1 = 1 := by decide
    have kC : IntKind.i64.wrap 0 = 0 := by decide
    go_region_held3 (fun w' => w'.cell? ⟨w.heap.size, 0, none⟩ = some (.bool b) ∧ w'.cell? ⟨w.heap.size, 1, none⟩ = some (.slice A n c) ∧ w'.cell? ⟨w.heap.size + 1, 0, none⟩ = some (.bool b') ∧ w'.cell? ⟨w.heap.size + 1, 1, none⟩ = some (.slice A' n' c') ∧ w'.cell? ⟨q, 0, none⟩ = some (.bool (decide (z < 0))) ∧ w'.cell? ⟨q, 1, none⟩ = some (.slice Ax (dl z.natAbs) cx))
      (first | exact ⟨HA.out.c0, HA.out.c1, HB.out.c0, HB.out.c1, HX.out.c0, HX.out.c1⟩)
      (first | (go_at_call 43; (with_reducible refine (CXa.out _ _ _ HW.out zx).mono ?_); rintro e wi ⟨rfl, hbk⟩; replace HA := hide (HA.out.up hbk); replace HB := hide (HB.out.up hbk); replace HX := hide (HX.out.up hbk); replace HW := chain HW hbk.out; replace zx := zx.up hbk; (try replace yy := yy.up hbk); (try replace yz := yz.up hbk); (try replace oo := oo.up hbk); (try replace uu := uu.up hbk)) | (go_at_call 47; (with_reducible refine (CNa.out _ HW.out).mono ?_); rintro e w_yy ⟨A_yy, c_yy, rfl, yy, hbk⟩; replace HA := hide (HA.out.up hbk); replace HB := hide (HB.out.up hbk); replace HX := hide (HX.out.up hbk); replace HW := chain HW hbk.out; replace zx := zx.up hbk; (try replace yy := yy.up hbk); (try replace yz := yz.up hbk); (try replace oo := oo.up hbk); (try replace uu := uu.up hbk)) | (go_at_call 47; (with_reducible refine (CNy.out _ _ _ yy).mono ?_); rintro e w_yz ⟨A_yz, c_yz, rfl, yz, hbk⟩; replace HA := hide (HA.out.up hbk); replace HB := hide (HB.out.up hbk); replace HX := hide (HX.out.up hbk); replace HW := chain HW hbk.out; replace zx := zx.up hbk; (try replace yy := yy.up hbk); (try replace yz := yz.up hbk); (try replace oo := oo.up hbk); (try replace uu := uu.up hbk)) | (go_at_call 43; (with_reducible refine (CZa.out _ _ _ HW.out yz).mono ?_); rintro e wi ⟨rfl, hbk⟩; replace HA := hide (HA.out.up hbk); replace HB := hide (HB.out.up hbk); replace HX := hide (HX.out.up hbk); replace HW := chain HW hbk.out; replace zx := zx.up hbk; (try replace yy := yy.up hbk); (try replace yz := yz.up hbk); (try replace oo := oo.up hbk); (try replace uu := uu.up hbk)) | (go_at_call 55; (with_reducible refine (CAy.out _ _ _ HW.out yy).mono ?_); rintro e w_oo ⟨A_oo, c_oo, rfl, oo, hbk⟩; replace HA := hide (HA.out.up hbk); replace HB := hide (HB.out.up hbk); replace HX := hide (HX.out.up hbk); replace HW := chain HW hbk.out; replace zx := zx.up hbk; (try replace yy := yy.up hbk); (try replace yz := yz.up hbk); (try replace oo := oo.up hbk); (try replace uu := uu.up hbk)) | (go_at_call 42; (with_reducible refine (CSo.out _ _ _ oo).mono ?_); rintro e wi ⟨rfl, hbk⟩; replace HA := hide (HA.out.up hbk); replace HB := hide (HB.out.up hbk); replace HX := hide (HX.out.up hbk); replace HW := chain HW hbk.out; replace zx := zx.up hbk; (try replace yy := yy.up hbk); (try replace yz := yz.up hbk); (try replace oo := oo.up hbk); (try replace uu := uu.up hbk)) | (go_at_call 43; (with_reducible refine (CAB.out _ HW.out).mono ?_); rintro e wi ⟨rfl, hbk⟩; replace HA := hide (HA.out.up hbk); replace HB := hide (HB.out.up hbk); replace HX := hide (HX.out.up hbk); replace HW := chain HW hbk.out; replace zx := zx.up hbk; (try replace yy := yy.up hbk); (try replace yz := yz.up hbk); (try replace oo := oo.up hbk); (try replace uu := uu.up hbk)) | (go_at_call 43; (with_reducible refine (CBA.out _ HW.out).mono ?_); rintro e wi ⟨rfl, hbk⟩; replace HA := hide (HA.out.up hbk); replace HB := hide (HB.out.up hbk); replace HX := hide (HX.out.up hbk); replace HW := chain HW hbk.out; replace zx := zx.up hbk; (try replace yy := yy.up hbk); (try replace yz := yz.up hbk); (try replace oo := oo.up hbk); (try replace uu := uu.up hbk)) | (go_at_call 47; (with_reducible refine (CNb.out _ HW.out).mono ?_); rintro e w_yb ⟨A_yb, c_yb, rfl, yb, hbk⟩; replace HA := hide (HA.out.up hbk); replace HB := hide (HB.out.up hbk); replace HX := hide (HX.out.up hbk); replace HW := chain HW hbk.out; replace zx := zx.up hbk; (try replace yy := yy.up hbk); (try replace yz := yz.up hbk); (try replace oo := oo.up hbk); (try replace uu := uu.up hbk)) | (go_at_call 55; (with_reducible refine (CAb.out _ _ _ HW.out yb).mono ?_); rintro e w_uu ⟨A_uu, c_uu, rfl, uu, hbk⟩; replace HA := hide (HA.out.up hbk); replace HB := hide (HB.out.up hbk); replace HX := hide (HX.out.up hbk); replace HW := chain HW hbk.out; replace zx := zx.up hbk; (try replace yy := yy.up hbk); (try replace yz := yz.up hbk); (try replace oo := oo.up hbk); (try replace uu := uu.up hbk)) | (go_at_call 42; (with_reducible refine (CSu.out _ _ _ uu).mono ?_); rintro e wi ⟨rfl, hbk⟩; replace HA := hide (HA.out.up hbk); replace HB := hide (HB.out.up hbk); replace HX := hide (HX.out.up hbk); replace HW := chain HW hbk.out; replace zx := zx.up hbk; (try replace yy := yy.up hbk); (try replace yz := yz.up hbk); (try replace oo := oo.up hbk); (try replace uu := uu.up hbk)) | (go_at_call 57; (with_reducible refine (CMp.out _ HW.out).mono ?_); rintro e w_pp ⟨A_pp, c_pp, rfl, pp, hbk⟩; replace HA := hide (HA.out.up hbk); replace HB := hide (HB.out.up hbk); replace HX := hide (HX.out.up hbk); replace HW := chain HW hbk.out; replace zx := zx.up hbk; (try replace yy := yy.up hbk); (try replace yz := yz.up hbk); (try replace oo := oo.up hbk); (try replace uu := uu.up hbk)) | (go_at_call 42; (with_reducible refine (CSp.out _ _ _ pp).mono ?_); rintro e wi ⟨rfl, hbk⟩; replace HA := hide (HA.out.up hbk); replace HB := hide (HB.out.up hbk); replace HX := hide (HX.out.up hbk); replace HW := chain HW hbk.out; replace zx := zx.up hbk; (try replace yy := yy.up hbk); (try replace yz := yz.up hbk); (try replace oo := oo.up hbk); (try replace uu := uu.up hbk)) | (go_at_call 42; (with_reducible refine (CSa.out _ HW.out).mono ?_); rintro e wi ⟨rfl, hbk⟩; replace HA := hide (HA.out.up hbk); replace HB := hide (HB.out.up hbk); replace HX := hide (HX.out.up hbk); replace HW := chain HW hbk.out; replace zx := zx.up hbk; (try replace yy := yy.up hbk); (try replace yz := yz.up hbk); (try replace oo := oo.up hbk); (try replace uu := uu.up hbk)) | (go_at_call 42; (with_reducible refine (CSb.out _ HW.out).mono ?_); rintro e wi ⟨rfl, hbk⟩; replace HA := hide (HA.out.up hbk); replace HB := hide (HB.out.up hbk); replace HX := hide (HX.out.up hbk); replace HW := chain HW hbk.out; replace zx := zx.up hbk; (try replace yy := yy.up hbk); (try replace yz := yz.up hbk); (try replace oo := oo.up hbk); (try replace uu := uu.up hbk)) | fail)
    go_wp2
    go_ret
    exact ⟨by first | rfl | (congr 2; simp), HW.out⟩
theorem nback_walk {b b' : Bool} {A0 A1 : Option Addr} {l0 l1 c0 c1 : Nat} {z0 z1 : List Nat} (w : World) (w0 : l0 = z0.length ∧ l0 ≤ c0 ∧ Rd U32 w w.heap.size A0 z0 ∧ Good32 z0) (w1 : l1 = z1.length ∧ l1 ≤ c1 ∧ Rd U32 w w.heap.size A1 z1 ∧ Good32 z1) :
    Calls Tryd.prog 11 #[.agg #[.bool b, .slice A0 l0 c0], .agg #[.bool b', .slice A1 l1 c1]] w fun e w' => e = .returned (.bool true) ∧ Below w.heap.size w w' := by
  by_cases h0 : l0 ≤ 24
  · by_cases h1 : l1 ≤ 24
    · have L0 : ZLater w b A0 l0 c0 (zi b (val W32 z0)) := fun W hb => za_of (nm_later (later_of w0 (by omega)) hb)
      have L1 : ZLater w b' A1 l1 c1 (zi b' (val W32 z1)) := fun W hb => za_of (nm_later (later_of w1 (by omega)) hb)
      have d0 : dl (zi b (val W32 z0)).natAbs ≤ 24 := by rw [zi_abs]; exact dl_le (val_lt24 w0.2.2.2 w0.1 h0)
      have d1 : dl (zi b' (val W32 z1)).natAbs ≤ 24 := by rw [zi_abs]; exact dl_le (val_lt24 w1.2.2.2 w1.1 h1)
      exact nback_main w L0 L1 h0 h1 d0 d1
    · have CLa := hide (fun W => long_h (W := W) (b := b) (A := A0) (c := c0) h0)
      have CLb := hide (fun W => long_n (W := W) (b := b') (A := A1) (c := c1) h1)
      clear w0 w1 h0 h1
      go_enter Tryd.func11, Tryd.ntmps11
      go_wp2_with (first | (go_at_call 37; (with_reducible refine (awake2_any _).mono ?_); rintro e w1 ⟨rfl, hbk⟩; have HA := hide (((zc_new _ _ _ _ _ _).al _).up hbk); have HB := hide ((zc_new1 _ _ _ _ _ _ _).up hbk); have HW := hide ((al2 w _ _).trans (hbk.out.mono (al2 w _ _).size)); have a0 := HA.out.c0; have a1 := HA.out.c1; have b0 := HB.out.c0; have b1 := HB.out.c1; have l1 := HB.out.lt; have l0 := HA.out.lt) | (go_at_call 49; (with_reducible refine (CLa.out _).mono ?_); rintro e w2 ⟨rfl, hbk⟩; replace HA := hide (HA.out.up hbk); replace HB := hide (HB.out.up hbk); replace HW := chain HW hbk.out; clear a0 a1 b0 b1 l0 l1; have a0 := HA.out.c0; have a1 := HA.out.c1; have b0 := HB.out.c0; have b1 := HB.out.c1; have l1 := HB.out.lt; have l0 := HA.out.lt) | (go_at_call 49; (with_reducible refine (CLb.out _).mono ?_); rintro e w3 ⟨rfl, hbk⟩; replace HA := hide (HA.out.up hbk); replace HB := hide (HB.out.up hbk); replace HW := chain HW hbk.out; clear a0 a1 b0 b1 l0 l1; have a0 := HA.out.c0; have a1 := HA.out.c1; have b0 := HB.out.c0; have b1 := HB.out.c1; have l1 := HB.out.lt; have l0 := HA.out.lt) | fail)
      go_ret
      exact ⟨rfl, HW.out⟩
  · have CLa := hide (fun W => long_n (W := W) (b := b) (A := A0) (c := c0) h0)
    clear w0 w1 h0
    go_enter Tryd.func11, Tryd.ntmps11
    go_wp2_with (first | (go_at_call 37; (with_reducible refine (awake2_any _).mono ?_); rintro e w1 ⟨rfl, hbk⟩; have HA := hide (((zc_new _ _ _ _ _ _).al _).up hbk); have HB := hide ((zc_new1 _ _ _ _ _ _ _).up hbk); have HW := hide ((al2 w _ _).trans (hbk.out.mono (al2 w _ _).size)); have a0 := HA.out.c0; have a1 := HA.out.c1; have b0 := HB.out.c0; have b1 := HB.out.c1; have l1 := HB.out.lt; have l0 := HA.out.lt) | (go_at_call 49; (with_reducible refine (CLa.out _).mono ?_); rintro e w2 ⟨rfl, hbk⟩; replace HA := hide (HA.out.up hbk); replace HB := hide (HB.out.up hbk); replace HW := chain HW hbk.out; clear a0 a1 b0 b1 l0 l1; have a0 := HA.out.c0; have a1 := HA.out.c1; have b0 := HB.out.c0; have b1 := HB.out.c1; have l1 := HB.out.lt; have l0 := HA.out.lt) | fail)
    go_ret
    exact ⟨rfl, HW.out⟩
end Go.Proofs.YtlmfkeicmldcnaaDoor
