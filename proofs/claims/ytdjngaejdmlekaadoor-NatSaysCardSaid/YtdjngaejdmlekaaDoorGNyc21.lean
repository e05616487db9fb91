/- Several texts in one, each with its own sentence and conditions. -/
import Derived.Test.YtdjngaejdmlekaaDoorGNyc18
import Derived.Test.YtdjngaejdmlekaaDoorNy1
import Derived.Test.YtdjngaejdmlekaaDoorNy2
section
/- NatSays' walk, case 3 of three. No conditions. -/
open Go.RowKit
set_option maxRecDepth 100000
namespace Go.Proofs.YtdjngaejdmlekaaDoor
section
variable {A B : Option Addr} {l c l' c' m n : Nat} {za zb : List Nat}
set_option maxHeartbeats 8000000 in
theorem nsays_c (w : World) (ha : l = za.length ∧ l ≤ c ∧ Rd U32 w w.heap.size A za ∧ Good32 za) (hb : l' = zb.length ∧ l' ≤ c' ∧ Rd U32 w w.heap.size B zb ∧ Good32 zb) (hl : l ≤ 24) (hl' : l' ≤ 24) (hm : val W32 za = m) (hn : val W32 zb = n) (hle : ¬ n ≤ m) (h0 : 0 < n) :
    Calls Tryd.prog 4 #[.slice A l c, .slice B l' c'] w fun e w' => e = .returned (.bool true) ∧ Below w.heap.size w w' := by
  have lt24 : ∀ {z : List Nat} {k : Nat}, Good32 z → k = z.length → k ≤ 24 → val W32 z < W32 ^ 24 := fun hg hk h12 => Nat.lt_of_lt_of_le (val_lt _ hg) (Nat.pow_le_pow_right (by decide) (by omega))
  have bm : m < W32 ^ 24 := by rw [← hm]; exact lt24 ha.2.2.2 ha.1 hl
  have bn : n < W32 ^ 24 := by rw [← hn]; exact lt24 hb.2.2.2 hb.1 hl'
  have NA : Nm w A l c m := by rw [← hm]; exact nm_later (later_of ha (by omega)) (Below.refl _ _)
  have NB : Nm w B l' c' n := by rw [← hn]; exact nm_later (later_of hb (by omega)) (Below.refl _ _)
  have qm : dq m ≤ 99999 := dq_bd bm (by decide)
  have qn : dq n ≤ 99999 := dq_bd bn (by decide)
  have CA : Hid (∀ W, Calls Tryd.prog 10 #[] W (fun e w' => e = .returned (.bool true) ∧ Hid (Below W.heap.size W w'))) := fun W => awake_any W
  have CU : Hid (∀ W, Bel w W → Calls Tryd.prog 24 #[.slice A l c] W (RefR W m)) := fun W h => by
    rw [← hm]
    exact Words_any ha.1 ((ha.2.2.1.below h).more (Below.size h)) ha.2.2.2 (by omega)
  have CV : Hid (∀ W, Bel w W → Calls Tryd.prog 24 #[.slice B l' c'] W (RefR W n)) := fun W h => by
    rw [← hn]
    exact Words_any hb.1 ((hb.2.2.1.below h).more (Below.size h)) hb.2.2.2 (by omega)
  have f1 : decide ((24 : Int) < (l : Int)) = false := decide_eq_false (by omega)
  have f2 : decide ((24 : Int) < (l' : Int)) = false := decide_eq_false (by omega)
  obtain ⟨cv, hcv⟩ : ∃ v, cmpI m n = v := ⟨_, rfl⟩
  have CC : Hid (∀ W D d E e, Rn W D d m → Rn W E e n → Calls Tryd.prog 25 #[.slice D (dq m) d, .slice E (dq n) e] W (IntPost W cv)) := fun W D d E e h1 h2 => rcmp_p h1 h2 (by omega) (by omega) hcv
  have CN : Hid (∀ W, Bel w W → Calls Tryd.prog 23 #[.agg #[.slice A l c], .agg #[.slice B l' c']] W (IntPost W cv)) := fun W h => cmp_h (NA.up h) (NB.up h) hcv
  obtain ⟨sm, hsm⟩ : ∃ v, v = m + n := ⟨_, rfl⟩
  obtain ⟨pd, hpd⟩ : ∃ v, v = m * n := ⟨_, rfl⟩
  obtain ⟨gg, hgg⟩ : ∃ v, v = Nat.gcd m n := ⟨_, rfl⟩
  have bsm : sm < W32 ^ 25 := by rw [hsm]; exact bd_add1 bm bn
  have bpd : pd < W32 ^ 48 := by rw [hpd]; exact bd_mul1 bm bn
  have bgg : gg < W32 ^ 24 := by
    rw [hgg]
    rcases Nat.eq_zero_or_pos m with h0 | h0
    · rw [h0, Nat.gcd_zero_left]; exact bn
    · exact Nat.lt_of_le_of_lt (Nat.le_of_dvd h0 (Nat.gcd_dvd_left _ _)) bm
  have lsm : dl sm ≤ 3999 := Nat.le_trans (dl_le bsm) (by decide)
  have lpd : dl pd ≤ 3999 := Nat.le_trans (dl_le bpd) (by decide)
  have lgg : dl gg ≤ 3999 := Nat.le_trans (dl_le bgg) (by decide)
  have CAd : Hid (∀ W, Bel w W → Calls Tryd.prog 28 #[.agg #[.slice A l c], .agg #[.slice B l' c']] W (NumR W sm)) := fun W h => add_h (NA.up h) (NB.up h) hsm.symm (by omega)
  have CMu : Hid (∀ W, Bel w W → Calls Tryd.prog 30 #[.agg #[.slice A l c], .agg #[.slice B l' c']] W (NumR W pd)) := fun W h => mul_h (NA.up h) (NB.up h) hpd.symm (by omega)
  have CGc : Hid (∀ W, Bel w W → Calls Tryd.prog 20 #[.agg #[.slice A l c], .agg #[.slice B l' c']] W (NumR W gg)) := fun W h => gcd_h (NA.up h) (NB.up h) hgg.symm (Nat.le_trans (dl_le bm) (by decide)) (Nat.le_trans (dl_le bn) (by decide))
  have CRa : Hid (∀ W D d E e, Rn W D d m → Rn W E e n → Calls Tryd.prog 29 #[.slice D (dq m) d, .slice E (dq n) e] W (RefR W sm)) := fun W D d E e h1 h2 => by rw [hsm]; exact rAdd_any h1 h2 (by omega) (by omega)
  have CRm : Hid (∀ W D d E e, Rn W D d m → Rn W E e n → Calls Tryd.prog 31 #[.slice D (dq m) d, .slice E (dq n) e] W (RefR W pd)) := fun W D d E e h1 h2 => by rw [hpd]; exact rMul_any h1 h2 (by omega) (by omega)
  have CRg : Hid (∀ W D d E e, Rn W D d m → Rn W E e n → Calls Tryd.prog 33 #[.slice D (dq m) d, .slice E (dq n) e] W (RefR W gg)) := fun W D d E e h1 h2 => by rw [hgg]; exact rGcd_any h1 h2 (by omega) (by omega)
  have CIs : Hid (∀ W D d E e v, dl v ≤ 3999 → Nm W D (dl v) d v → Rn W E e v → Calls Tryd.prog 17 #[.agg #[.slice D (dl v) d], .slice E (dq v) e] W (BoolR W true)) := fun W D d E e v hv h1 h2 => is1_same h1 h2 (by omega)
  obtain ⟨tx, htx⟩ : ∃ t : ByteArray, t.data.toList = decL m := ⟨⟨(decL m).toArray⟩, rfl⟩
  have CTx : Hid (∀ W, Bel w W → Calls Tryd.prog 16 #[.agg #[.slice A l c]] W (StrN W tx)) := fun W h => (text_h (NA.up h)).mono fun _ _ g => strn_of g htx
  have CTr : Hid (∀ W D d, Rn W D d m → Calls Tryd.prog 32 #[.slice D (dq m) d] W (StrN W tx)) := fun W D d h => (rText_any h (by omega)).mono fun _ _ g => strn_of g htx
  have hv0 : ¬ 0 ≤ cv := by rw [← hcv, cmpI_lt (by omega)]; decide
  have hvd : decide (0 ≤ cv) = false := decide_eq_false hv0
  have CS : Hid (∀ W, Bel w W → Calls Tryd.prog 13 #[.agg #[.slice A l c], .agg #[.slice B l' c']] W (SubNo W)) := fun W h => sub_no (NA.up h) (NB.up h) hle
  obtain ⟨q, hq⟩ : ∃ v, v = m / n := ⟨_, rfl⟩
  obtain ⟨r, hr⟩ : ∃ v, v = m % n := ⟨_, rfl⟩
  have bq : q < W32 ^ 24 := by rw [hq]; exact Nat.lt_of_le_of_lt (Nat.div_le_self _ _) bm
  have br : r < W32 ^ 24 := by rw [hr]; exact Nat.lt_of_le_of_lt (Nat.mod_le _ _) bm
  have lq : dl q ≤ 3999 := Nat.le_trans (dl_le bq) (by decide)
  have lr : dl r ≤ 3999 := Nat.le_trans (dl_le br) (by decide)
  have CD : Hid (∀ W, Bel w W → Calls Tryd.prog 14 #[.agg #[.slice A l c], .agg #[.slice B l' c']] W (DivV W q r)) := fun W h => div_v (NA.up h) (NB.up h) h0 (Nat.le_trans (dl_le bm) (by decide)) hq.symm hr.symm
  have CRd : Hid (∀ W D d E e, Rn W D d m → Rn W E e n → Calls Tryd.prog 27 #[.slice D (dq m) d, .slice E (dq n) e] W (RDiv2 W q r)) := fun W D d E e h1 h2 => by rw [hq, hr]; exact rDiv_any h1 h2 qm qn h0
  have dn : 0 < dq n := dq_pos.2 h0
  clear hle h0 hq hr bq br
  clear ha hb hl hl' hm hn lt24 bm bn NA NB qm qn hcv hsm hpd hgg bsm bpd bgg htx
  have HB := Bel.refl w
  go_enter Tryd.func4, Tryd.ntmps4
  go_wp2_with (first | (go_at_call 10; (with_reducible refine (CA.out _).mono ?_); rintro e w1 ⟨rfl, hbk⟩; (with_reducible (replace HB := HB.up hbk))) | (go_at_call 24; (with_reducible refine (CU.out _ ((HB.al _).al _)).mono ?_); rintro e w2 ⟨uA, uc, rfl, ru, hbk⟩; (with_reducible (have HX : At w2 w1.heap.size [.slice A l c] := At.up ((at_new0 _ _ _).al _) hbk; have HY : At w2 (w1.heap.size + 1) [.slice B l' c'] := At.up (at_new1 _ _ _ _) hbk; replace HB := ((HB.al _).al _).up hbk)); have hx_0 := HX.c0; have hx_l := HX.lt; have hy_0 := HY.c0; have hy_l := HY.lt) | (go_at_call 24; (with_reducible refine (CV.out _ HB).mono ?_); rintro e w3 ⟨vA, vc, rfl, rv, hbk⟩; (with_reducible (replace HB := HB.up hbk; replace HX := HX.up hbk; replace HY := HY.up hbk; replace ru := ru.up hbk)); clear hx_0 hx_l hy_0 hy_l; have hx_0 := HX.c0; have hx_l := HX.lt; have hy_0 := HY.c0; have hy_l := HY.lt) | (go_at_call 13; (with_reducible refine (CS.out _ HB).mono ?_); rintro e w4 ⟨rfl, hbk⟩; (with_reducible (replace HB := HB.up hbk; replace HX := HX.up hbk; replace HY := HY.up hbk; replace ru := ru.up hbk; replace rv := rv.up hbk)); clear hx_0 hx_l hy_0 hy_l; have hx_0 := HX.c0; have hx_l := HX.lt; have hy_0 := HY.c0; have hy_l := HY.lt) | (go_at_call 25; (with_reducible refine (CC.out _ _ _ _ _ (ru.al _) (rv.al _)).mono ?_); rintro e w5 ⟨rfl, hbk⟩; (with_reducible (have HS : At w5 w4.heap.size [.slice none 0 0] := At.up (at_new0 _ _ _) hbk; replace HB := (HB.al _).up hbk; replace HX := (HX.al _).up hbk; replace HY := (HY.al _).up hbk; replace ru := (ru.al _).up hbk; replace rv := (rv.al _).up hbk)); clear hx_0 hx_l hy_0 hy_l) | fail)
  refine wp_region_held_drew (S := fun w' => w'.cell? ⟨w4.heap.size, 0, none⟩ = some (.slice none 0 0)) (by kernel_rfl) ?_ (fun hHeld => ?_)
  · exact HS.dr.c0
  (refine wpAnyH_take (i := 0) (v := ?_) rfl (by decide +kernel) (by decide +kernel) (by decide +kernel) (fun _ _ _ h => h) (Or.inl ⟨by rfl, ?_⟩) (by assumption) ?_; rotate_left; (focus ((intro w hSw; (try dsimp only at hSw); go_simp); (try (with_reducible rfl)); done)); (try simp only [List.getElem_toArray, List.getElem_cons_zero, List.getElem_cons_succ, Act.put, List.setIfInBounds_toArray, List.set_cons_zero, List.set_cons_succ]))
  (refine wpAnyH_take (i := 1) (v := ?_) rfl (by decide +kernel) (by decide +kernel) (by decide +kernel) (fun _ _ _ h => h) (Or.inl ⟨by rfl, ?_⟩) (by assumption) ?_; rotate_left; (focus ((intro w hSw; (try dsimp only at hSw); go_simp); (try (with_reducible rfl)); done)); (try simp only [List.getElem_toArray, List.getElem_cons_zero, List.getElem_cons_succ, Act.put, List.setIfInBounds_toArray, List.set_cons_zero, List.set_cons_succ]))
  (refine wpAnyH_take (i := 2) (v := ?_) rfl (by decide +kernel) (by decide +kernel) (by decide +kernel) (fun _ _ _ h => h) (Or.inl ⟨by rfl, ?_⟩) (by assumption) ?_; rotate_left; (focus ((intro w hSw; (try dsimp only at hSw); go_simp); (try (with_reducible rfl)); done)); (try simp only [List.getElem_toArray, List.getElem_cons_zero, List.getElem_cons_succ, Act.put, List.setIfInBounds_toArray, List.set_cons_zero, List.set_cons_succ]))
  (refine wpAnyH_take (i := 3) (v := ?_) rfl (by decide +kernel) (by decide +kernel) (by decide +kernel) (fun _ _ _ h => h) (Or.inl ⟨by rfl, ?_⟩) (by assumption) ?_; rotate_left; (focus ((intro w hSw; (try dsimp only at hSw); go_simp); (try (with_reducible rfl)); done)); (try simp only [List.getElem_toArray, List.getElem_cons_zero, List.getElem_cons_succ, Act.put, List.setIfInBounds_toArray, List.set_cons_zero, List.set_cons_succ]))
  (refine wpAnyH_take (i := 4) (v := ?_) rfl (by decide +kernel) (by decide +kernel) (by decide +kernel) (fun _ _ _ h => h) (Or.inl ⟨by rfl, ?_⟩) (by assumption) ?_; rotate_left; (focus ((intro w hSw; (try dsimp only at hSw); go_simp); (try (with_reducible rfl)); done)); (try simp only [List.getElem_toArray, List.getElem_cons_zero, List.getElem_cons_succ, Act.put, List.setIfInBounds_toArray, List.set_cons_zero, List.set_cons_succ]))
  (refine wpAnyH_take (i := 5) (v := ?_) rfl (by decide +kernel) (by decide +kernel) (by decide +kernel) (fun _ _ _ h => h) (Or.inl ⟨by rfl, ?_⟩) (by assumption) ?_; rotate_left; (focus ((intro w hSw; (try dsimp only at hSw); go_simp); (try (with_reducible rfl)); done)); (try simp only [List.getElem_toArray, List.getElem_cons_zero, List.getElem_cons_succ, Act.put, List.setIfInBounds_toArray, List.set_cons_zero, List.set_cons_succ]))
  (refine wpAnyH_take (i := 6) (v := undef) rfl (by decide +kernel) (by decide +kernel) (by decide +kernel) (fun _ _ _ h => h) (Or.inr ⟨by rfl, rfl⟩) (by assumption) ?_; (try simp only [List.getElem_toArray, List.getElem_cons_zero, List.getElem_cons_succ, Act.put, List.setIfInBounds_toArray, List.set_cons_zero, List.set_cons_succ]))
  (refine wpAnyH_take (i := 7) (v := undef) rfl (by decide +kernel) (by decide +kernel) (by decide +kernel) (fun _ _ _ h => h) (Or.inr ⟨by rfl, rfl⟩) (by assumption) ?_; (try simp only [List.getElem_toArray, List.getElem_cons_zero, List.getElem_cons_succ, Act.put, List.setIfInBounds_toArray, List.set_cons_zero, List.set_cons_succ]))
  (refine wpAnyH_take (i := 8) (v := undef) rfl (by decide +kernel) (by decide +kernel) (by decide +kernel) (fun _ _ _ h => h) (Or.inr ⟨by rfl, rfl⟩) (by assumption) ?_; (try simp only [List.getElem_toArray, List.getElem_cons_zero, List.getElem_cons_succ, Act.put, List.setIfInBounds_toArray, List.set_cons_zero, List.set_cons_succ]))
  (refine wpAnyH_take (i := 9) (v := undef) rfl (by decide +kernel) (by decide +kernel) (by decide +kernel) (fun _ _ _ h => h) (Or.inr ⟨by rfl, rfl⟩) (by assumption) ?_; (try simp only [List.getElem_toArray, List.getElem_cons_zero, List.getElem_cons_succ, Act.put, List.setIfInBounds_toArray, List.set_cons_zero, List.set_cons_succ]))
  (refine wpAnyH_take (i := 10) (v := undef) rfl (by decide +kernel) (by decide +kernel) (by decide +kernel) (fun _ _ _ h => h) (Or.inr ⟨by rfl, rfl⟩) (by assumption) ?_; (try simp only [List.getElem_toArray, List.getElem_cons_zero, List.getElem_cons_succ, Act.put, List.setIfInBounds_toArray, List.set_cons_zero, List.set_cons_succ]))
  (refine wpAnyH_take (i := 11) (v := undef) rfl (by decide +kernel) (by decide +kernel) (by decide +kernel) (fun _ _ _ h => h) (Or.inr ⟨by rfl, rfl⟩) (by assumption) ?_; (try simp only [List.getElem_toArray, List.getElem_cons_zero, List.getElem_cons_succ, Act.put, List.setIfInBounds_toArray, List.set_cons_zero, List.set_cons_succ]))
  (refine wpAnyH_take (i := 12) (v := ?_) rfl (by decide +kernel) (by decide +kernel) (by decide +kernel) (fun _ _ _ h => h) (Or.inl ⟨by rfl, ?_⟩) (by assumption) ?_; rotate_left; (focus ((intro w hSw; (try dsimp only at hSw); go_simp); (try (with_reducible rfl)); done)); (try simp only [List.getElem_toArray, List.getElem_cons_zero, List.getElem_cons_succ, Act.put, List.setIfInBounds_toArray, List.set_cons_zero, List.set_cons_succ]))
  (refine wpAnyH_take (i := 13) (v := ?_) rfl (by decide +kernel) (by decide +kernel) (by decide +kernel) (fun _ _ _ h => h) (Or.inl ⟨by rfl, ?_⟩) (by assumption) ?_; rotate_left; (focus ((intro w hSw; (try dsimp only at hSw); go_simp); (try (with_reducible rfl)); done)); (try simp only [List.getElem_toArray, List.getElem_cons_zero, List.getElem_cons_succ, Act.put, List.setIfInBounds_toArray, List.set_cons_zero, List.set_cons_succ]))
  (refine wpAnyH_take (i := 14) (v := ?_) rfl (by decide +kernel) (by decide +kernel) (by decide +kernel) (fun _ _ _ h => h) (Or.inl ⟨by rfl, ?_⟩) (by assumption) ?_; rotate_left; (focus ((intro w hSw; (try dsimp only at hSw); go_simp); (try (with_reducible rfl)); done)); (try simp only [List.getElem_toArray, List.getElem_cons_zero, List.getElem_cons_succ, Act.put, List.setIfInBounds_toArray, List.set_cons_zero, List.set_cons_succ]))
  (refine wpAnyH_take (i := 15) (v := ?_) rfl (by decide +kernel) (by decide +kernel) (by decide +kernel) (fun _ _ _ h => h) (Or.inl ⟨by rfl, ?_⟩) (by assumption) ?_; rotate_left; (focus ((intro w hSw; (try dsimp only at hSw); go_simp); (try (with_reducible rfl)); done)); (try simp only [List.getElem_toArray, List.getElem_cons_zero, List.getElem_cons_succ, Act.put, List.setIfInBounds_toArray, List.set_cons_zero, List.set_cons_succ]))
  (refine wpAnyH_take (i := 16) (v := ?_) rfl (by decide +kernel) (by decide +kernel) (by decide +kernel) (fun _ _ _ h => h) (Or.inl ⟨by rfl, ?_⟩) (by assumption) ?_; rotate_left; (focus ((intro w hSw; (try dsimp only at hSw); go_simp); (try (with_reducible rfl)); done)); (try simp only [List.getElem_toArray, List.getElem_cons_zero, List.getElem_cons_succ, Act.put, List.setIfInBounds_toArray, List.set_cons_zero, List.set_cons_succ]))
  (refine wpAnyH_take (i := 17) (v := ?_) rfl (by decide +kernel) (by decide +kernel) (by decide +kernel) (fun _ _ _ h => h) (Or.inl ⟨by rfl, ?_⟩) (by assumption) ?_; rotate_left; (focus ((intro w hSw; (try dsimp only at hSw); go_simp); (try (with_reducible rfl)); done)); (try simp only [List.getElem_toArray, List.getElem_cons_zero, List.getElem_cons_succ, Act.put, List.setIfInBounds_toArray, List.set_cons_zero, List.set_cons_succ]))
  (refine wpAnyH_take (i := 18) (v := ?_) rfl (by decide +kernel) (by decide +kernel) (by decide +kernel) (fun _ _ _ h => h) (Or.inl ⟨by rfl, ?_⟩) (by assumption) ?_; rotate_left; (focus ((intro w hSw; (try dsimp only at hSw); go_simp); (try (with_reducible rfl)); done)); (try simp only [List.getElem_toArray, List.getElem_cons_zero, List.getElem_cons_succ, Act.put, List.setIfInBounds_toArray, List.set_cons_zero, List.set_cons_succ]))
  (refine wpAnyH_take (i := 19) (v := ?_) rfl (by decide +kernel) (by decide +kernel) (by decide +kernel) (fun _ _ _ h => h) (Or.inl ⟨by rfl, ?_⟩) (by assumption) ?_; rotate_left; (focus ((intro w hSw; (try dsimp only at hSw); go_simp); (try (with_reducible rfl)); done)); (try simp only [List.getElem_toArray, List.getElem_cons_zero, List.getElem_cons_succ, Act.put, List.setIfInBounds_toArray, List.set_cons_zero, List.set_cons_succ]))
  (refine wpAnyH_take (i := 20) (v := ?_) rfl (by decide +kernel) (by decide +kernel) (by decide +kernel) (fun _ _ _ h => h) (Or.inl ⟨by rfl, ?_⟩) (by assumption) ?_; rotate_left; (focus ((intro w hSw; (try dsimp only at hSw); go_simp); (try (with_reducible rfl)); done)); (try simp only [List.getElem_toArray, List.getElem_cons_zero, List.getElem_cons_succ, Act.put, List.setIfInBounds_toArray, List.set_cons_zero, List.set_cons_succ]))
  (refine wpAnyH_take (i := 21) (v := ?_) rfl (by decide +kernel) (by decide +kernel) (by decide +kernel) (fun _ _ _ h => h) (Or.inl ⟨by rfl, ?_⟩) (by assumption) ?_; rotate_left; (focus ((intro w hSw; (try dsimp only at hSw); go_simp); (try (with_reducible rfl)); done)); (try simp only [List.getElem_toArray, List.getElem_cons_zero, List.getElem_cons_succ, Act.put, List.setIfInBounds_toArray, List.set_cons_zero, List.set_cons_succ]))
  (refine wpAnyH_take (i := 22) (v := ?_) rfl (by decide +kernel) (by decide +kernel) (by decide +kernel) (fun _ _ _ h => h) (Or.inl ⟨by rfl, ?_⟩) (by assumption) ?_; rotate_left; (focus ((intro w hSw; (try dsimp only at hSw); go_simp); (try (with_reducible rfl)); done)); (try simp only [List.getElem_toArray, List.getElem_cons_zero, List.getElem_cons_succ, Act.put, List.setIfInBounds_toArray, List.set_cons_zero, List.set_cons_succ]))
  (refine wpAnyH_take (i := 23) (v := ?_) rfl (by decide +kernel) (by decide +kernel) (by decide +kernel) (fun _ _ _ h => h) (Or.inl ⟨by rfl, ?_⟩) (by assumption) ?_; rotate_left; (focus ((intro w hSw; (try dsimp only at hSw); go_simp); (try (with_reducible rfl)); done)); (try simp only [List.getElem_toArray, List.getElem_cons_zero, List.getElem_cons_succ, Act.put, List.setIfInBounds_toArray, List.set_cons_zero, List.set_cons_succ]))
  refine wpAnyH_done (by decide +kernel) ?_ _
  all_goals
    clear HS
    have HX0 := HX.dr
    have HY0 := HY.dr
    replace HB := HB.dr
    replace ru := ru.dr
    replace rv := rv.dr
    clear HX HY
    have HX := HX0
    have HY := HY0
    clear HX0 HY0
    have hx_0 := HX.c0
    have hx_l := HX.lt
    have hy_0 := HY.c0
    have hy_l := HY.lt
    go_wp2_with (first | (go_at_call 14; (with_reducible refine (CD.out _ HB).mono ?_); rintro e y1 ⟨qA, qc, rA, rc, rfl, nq, nr, hbk⟩; (with_reducible (replace HB := HB.up hbk; replace HX := HX.up hbk; replace HY := HY.up hbk; replace ru := ru.up hbk; replace rv := rv.up hbk)); clear hx_0 hx_l hy_0 hy_l; have hx_0 := HX.c0; have hx_l := HX.lt; have hy_0 := HY.c0; have hy_l := HY.lt) | (go_at_call 27; (with_reducible refine (CRd.out _ _ _ _ _ ((ru.al _).al _) ((rv.al _).al _)).mono ?_); rintro e y2 ⟨pA, pc, oA, oc, rfl, rp, ro, hbk⟩; (with_reducible (have HQ : At y2 y1.heap.size [.slice qA (dl q) qc] := At.up ((at_new0 _ _ _).al _) hbk; have HR : At y2 (y1.heap.size + 1) [.slice rA (dl r) rc] := At.up (at_new1 _ _ _ _) hbk; replace HB := ((HB.al _).al _).up hbk; replace HX := ((HX.al _).al _).up hbk; replace HY := ((HY.al _).al _).up hbk; replace ru := ((ru.al _).al _).up hbk; replace rv := ((rv.al _).al _).up hbk; replace nq := ((nq.al _).al _).up hbk; replace nr := ((nr.al _).al _).up hbk)); clear hx_0 hx_l hy_0 hy_l; have hx_0 := HX.c0; have hx_l := HX.lt; have hy_0 := HY.c0; have hy_l := HY.lt; have hq_0 := HQ.c0; have hq_l := HQ.lt; have hr_0 := HR.c0; have hr_l := HR.lt) | (go_at_call 17; (with_reducible refine (CIs.out _ _ _ _ _ _ lq nq rp).mono ?_); rintro e y3 ⟨rfl, hbk⟩; (with_reducible (replace HB := HB.up hbk; replace HX := HX.up hbk; replace HY := HY.up hbk; replace ru := ru.up hbk; replace rv := rv.up hbk; replace HQ := HQ.up hbk; replace HR := HR.up hbk; replace nr := nr.up hbk; replace ro := ro.up hbk)); clear hx_0 hx_l hy_0 hy_l hq_0 hq_l hr_0 hr_l rp; have hx_0 := HX.c0; have hx_l := HX.lt; have hy_0 := HY.c0; have hy_l := HY.lt; have hr_0 := HR.c0; have hr_l := HR.lt) | (go_at_call 17; (with_reducible refine (CIs.out _ _ _ _ _ _ lr nr ro).mono ?_); rintro e y4 ⟨rfl, hbk⟩; (with_reducible (replace HB := HB.up hbk; replace HX := HX.up hbk; replace HY := HY.up hbk; replace ru := ru.up hbk; replace rv := rv.up hbk)); clear hx_0 hx_l hy_0 hy_l hr_0 hr_l ro; have hx_0 := HX.c0; have hx_l := HX.lt; have hy_0 := HY.c0; have hy_l := HY.lt) | (go_at_call 23; (with_reducible refine (CN.out _ HB).mono ?_); rintro e x1 ⟨rfl, hbk⟩; (with_reducible (replace HB := HB.up hbk; replace HX := HX.up hbk; replace HY := HY.up hbk; replace ru := ru.up hbk; replace rv := rv.up hbk)); clear hx_0 hx_l hy_0 hy_l; have hx_0 := HX.c0; have hx_l := HX.lt; have hy_0 := HY.c0; have hy_l := HY.lt) | (go_at_call 25; (with_reducible refine (CC.out _ _ _ _ _ ru rv).mono ?_); rintro e x2 ⟨rfl, hbk⟩; (with_reducible (replace HB := HB.up hbk; replace HX := HX.up hbk; replace HY := HY.up hbk; replace ru := ru.up hbk; replace rv := rv.up hbk)); clear hx_0 hx_l hy_0 hy_l; have hx_0 := HX.c0; have hx_l := HX.lt; have hy_0 := HY.c0; have hy_l := HY.lt) | (go_at_call 28; (with_reducible refine (CAd.out _ HB).mono ?_); rintro e x3 ⟨aA, ac, rfl, na, hbk⟩; (with_reducible (replace HB := HB.up hbk; replace HX := HX.up hbk; replace HY := HY.up hbk; replace ru := ru.up hbk; replace rv := rv.up hbk)); clear hx_0 hx_l hy_0 hy_l; have hx_0 := HX.c0; have hx_l := HX.lt; have hy_0 := HY.c0; have hy_l := HY.lt) | (go_at_call 29; (with_reducible refine (CRa.out _ _ _ _ _ ru rv).mono ?_); rintro e x4 ⟨bA, bc, rfl, rb, hbk⟩; (with_reducible (replace HB := HB.up hbk; replace HX := HX.up hbk; replace HY := HY.up hbk; replace ru := ru.up hbk; replace rv := rv.up hbk; replace na := na.up hbk)); clear hx_0 hx_l hy_0 hy_l; have hx_0 := HX.c0; have hx_l := HX.lt; have hy_0 := HY.c0; have hy_l := HY.lt) | (go_at_call 17; (with_reducible refine (CIs.out _ _ _ _ _ _ lsm na rb).mono ?_); rintro e x5 ⟨rfl, hbk⟩; (with_reducible (replace HB := HB.up hbk; replace HX := HX.up hbk; replace HY := HY.up hbk; replace ru := ru.up hbk; replace rv := rv.up hbk)); clear hx_0 hx_l hy_0 hy_l; have hx_0 := HX.c0; have hx_l := HX.lt; have hy_0 := HY.c0; have hy_l := HY.lt) | (go_at_call 30; (with_reducible refine (CMu.out _ HB).mono ?_); rintro e x6 ⟨dA, dc, rfl, nd, hbk⟩; (with_reducible (replace HB := HB.up hbk; replace HX := HX.up hbk; replace HY := HY.up hbk; replace ru := ru.up hbk; replace rv := rv.up hbk)); clear hx_0 hx_l hy_0 hy_l; have hx_0 := HX.c0; have hx_l := HX.lt; have hy_0 := HY.c0; have hy_l := HY.lt) | (go_at_call 31; (with_reducible refine (CRm.out _ _ _ _ _ ru rv).mono ?_); rintro e x7 ⟨eA, ec, rfl, re, hbk⟩; (with_reducible (replace HB := HB.up hbk; replace HX := HX.up hbk; replace HY := HY.up hbk; replace ru := ru.up hbk; replace rv := rv.up hbk; replace nd := nd.up hbk)); clear hx_0 hx_l hy_0 hy_l; have hx_0 := HX.c0; have hx_l := HX.lt; have hy_0 := HY.c0; have hy_l := HY.lt) | (go_at_call 17; (with_reducible refine (CIs.out _ _ _ _ _ _ lpd nd re).mono ?_); rintro e x8 ⟨rfl, hbk⟩; (with_reducible (replace HB := HB.up hbk; replace HX := HX.up hbk; replace HY := HY.up hbk; replace ru := ru.up hbk; replace rv := rv.up hbk)); clear hx_0 hx_l hy_0 hy_l; have hx_0 := HX.c0; have hx_l := HX.lt; have hy_0 := HY.c0; have hy_l := HY.lt) | (go_at_call 16; (with_reducible refine (CTx.out _ HB).mono ?_); rintro e x9 ⟨rfl, hbk⟩; (with_reducible (replace HB := HB.up hbk; replace HX := HX.up hbk; replace HY := HY.up hbk; replace ru := ru.up hbk; replace rv := rv.up hbk)); clear hx_0 hx_l hy_0 hy_l; have hx_0 := HX.c0; have hx_l := HX.lt; have hy_0 := HY.c0; have hy_l := HY.lt) | (go_at_call 32; (with_reducible refine (CTr.out _ _ _ ru).mono ?_); rintro e xa ⟨rfl, hbk⟩; (with_reducible (replace HB := HB.up hbk; replace HX := HX.up hbk; replace HY := HY.up hbk; replace ru := ru.up hbk; replace rv := rv.up hbk)); clear hx_0 hx_l hy_0 hy_l; have hx_0 := HX.c0; have hx_l := HX.lt; have hy_0 := HY.c0; have hy_l := HY.lt) | (go_at_call 20; (with_reducible refine (CGc.out _ HB).mono ?_); rintro e xb ⟨gA, gc, rfl, ng, hbk⟩; (with_reducible (replace HB := HB.up hbk; replace HX := HX.up hbk; replace HY := HY.up hbk; replace ru := ru.up hbk; replace rv := rv.up hbk)); clear hx_0 hx_l hy_0 hy_l; have hx_0 := HX.c0; have hx_l := HX.lt; have hy_0 := HY.c0; have hy_l := HY.lt) | (go_at_call 33; (with_reducible refine (CRg.out _ _ _ _ _ ru rv).mono ?_); rintro e xc ⟨hA, hc2, rfl, rh, hbk⟩; (with_reducible (replace HB := HB.up hbk; replace HX := HX.up hbk; replace HY := HY.up hbk; replace ru := ru.up hbk; replace rv := rv.up hbk; replace ng := ng.up hbk)); clear hx_0 hx_l hy_0 hy_l; have hx_0 := HX.c0; have hx_l := HX.lt; have hy_0 := HY.c0; have hy_l := HY.lt) | (go_at_call 17; (with_reducible refine (CIs.out _ _ _ _ _ _ lgg ng rh).mono ?_); rintro e xd ⟨rfl, hbk⟩; (with_reducible (replace HB := HB.up hbk; replace HX := HX.up hbk; replace HY := HY.up hbk; replace ru := ru.up hbk; replace rv := rv.up hbk)); clear hx_0 hx_l hy_0 hy_l; have hx_0 := HX.c0; have hx_l := HX.lt; have hy_0 := HY.c0; have hy_l := HY.lt) | fail)
    go_ret
    exact ⟨rfl, HB⟩
end
end Go.Proofs.YtdjngaejdmlekaaDoor
end

section
/- NatSays over all inputs. No conditions. -/
open Go.RowKit
set_option maxRecDepth 100000
namespace Go.Proofs.YtdjngaejdmlekaaDoor
theorem nsays_walk {A B : Option Addr} {l c l' c' : Nat} {za zb : List Nat} (w : World) (ha : l = za.length ∧ l ≤ c ∧ Rd U32 w w.heap.size A za ∧ Good32 za) (hb : l' = zb.length ∧ l' ≤ c' ∧ Rd U32 w w.heap.size B zb ∧ Good32 zb) :
    Calls Tryd.prog 4 #[.slice A l c, .slice B l' c'] w fun e w' => e = .returned (.bool true) ∧ Below w.heap.size w w' := by
  by_cases hl : l ≤ 24
  · by_cases hl' : l' ≤ 24
    · by_cases hle : val W32 zb ≤ val W32 za
      · rcases Nat.eq_zero_or_pos (val W32 zb) with h0 | h0
        · exact nsays_b w ha hb hl hl' rfl rfl hle h0
        · exact nsays_a w ha hb hl hl' rfl rfl hle h0
      · exact nsays_c w ha hb hl hl' rfl rfl hle (by omega)
    · have f1 : decide ((24 : Int) < (l : Int)) = false := decide_eq_false (by omega)
      have f2 : decide ((24 : Int) < (l' : Int)) = true := decide_eq_true (by omega)
      have CA : Hid (∀ W, Calls Tryd.prog 10 #[] W (fun e w' => e = .returned (.bool true) ∧ Hid (Below W.heap.size W w'))) := fun W => awake_any W
      clear ha hb hl hl'
      have HB := Bel.refl w
      go_enter Tryd.func4, Tryd.ntmps4
      go_wp2_with (first | (go_at_call 10; (with_reducible refine (CA.out _).mono ?_); rintro e w1 ⟨rfl, hbk⟩; replace HB := HB.up hbk) | fail)
      go_ret
      exact ⟨rfl, HB⟩
  · have f1 : decide ((24 : Int) < (l : Int)) = true := decide_eq_true (by omega)
    have CA : Hid (∀ W, Calls Tryd.prog 10 #[] W (fun e w' => e = .returned (.bool true) ∧ Hid (Below W.heap.size W w'))) := fun W => awake_any W
    clear ha hb hl
    have HB := Bel.refl w
    go_enter Tryd.func4, Tryd.ntmps4
    go_wp2_with (first | (go_at_call 10; (with_reducible refine (CA.out _).mono ?_); rintro e w1 ⟨rfl, hbk⟩; replace HB := HB.up hbk) | fail)
    go_ret
    exact ⟨rfl, HB⟩
end Go.Proofs.YtdjngaejdmlekaaDoor
end
