/- Several texts in one, each with its own sentence and conditions. -/
import Derived.Test.YtmiklffjffdkgaaGreatDoorGRwbc13
import Derived.Test.YtmiklffjffdkgaaGreatDoorGRwbc1
section
/- The document's own integers: ZSign, ZNeg, ZMul, ZText. Conditions: less than 100000 fours of digits. -/
open Go.RowKit
set_option maxRecDepth 100000
namespace Go.Proofs.YtmiklffjffdkgaaGreatDoor
/-- In world W the document's own integer stands there. -/
def Rz (W : World) (b : Bool) (A : Option Addr) (c : Nat) (z : Int) : Prop := Rn W A c z.natAbs ∧ Hid (b = decide (z < 0))
theorem Rz.up {W W' : World} {b : Bool} {A : Option Addr} {c : Nat} {z : Int} (h : Rz W b A c z) (hb : Hid (Below W.heap.size W W')) : Rz W' b A c z := ⟨h.1.up hb, h.2⟩
theorem Rz.al {W : World} {b : Bool} {A : Option Addr} {c : Nat} {z : Int} (h : Rz W b A c z) (o : Obj) : Rz (W.alloc o) b A c z := ⟨h.1.al o, h.2⟩
theorem Rz.dr {W : World} {b : Bool} {A : Option Addr} {c : Nat} {z : Int} (h : Rz W b A c z) : Rz W.drew b A c z := h
theorem Rz.zi {W : World} {b : Bool} {A : Option Addr} {c : Nat} {z : Int} (h : Rz W b A c z) : z = zi b z.natAbs := by rw [h.2.out]; exact zi_dec z
def RZv (W : World) (s : Bool) (z : Int) (e : Ending) (w' : World) : Prop := ∃ A c, e = .returned (.agg #[.bool s, .slice A (dq z.natAbs) c]) ∧ Rz w' s A c z ∧ Hid (Below W.heap.size W w')
def RefRz (W : World) (m : Nat) (e : Ending) (w' : World) : Prop := ∃ A c, e = .returned (.slice A (dq m) c) ∧ Rn w' A c m ∧ Hid (Below W.heap.size W w')
section
variable {W : World} {b b' s : Bool} {A A' : Option Addr} {c c' : Nat} {z z' v : Int}
theorem rzsign_h (h : Rz W b A c z) (hv : z.sign = v) : Calls Tryz.prog 84 #[.agg #[.bool b, .slice A (dq z.natAbs) c]] W (IntPost W v) := by
  subst hv
  rcases Int.lt_trichotomy z 0 with h1 | h1 | h1
  · have hb : b = true := by rw [h.2.out]; exact decide_eq_true h1
    subst hb
    have HS : Hid (z.sign = -1) := Int.sign_eq_neg_one_of_neg h1
    clear h h1
    go_enter Tryz.func84, Tryz.ntmps84
    go_wp2
    go_ret
    exact ⟨by rw [HS.out]; rfl, (Below.refl _ _).alloc (Nat.le_refl _) _⟩
  · have hb : b = false := by rw [h.2.out]; exact decide_eq_false (by omega)
    subst hb
    have HS : Hid (z.sign = 0) := by rw [h1]; rfl
    obtain ⟨k, hk⟩ : ∃ k, k = dq z.natAbs := ⟨_, rfl⟩
    have hk0 : k = 0 := by rw [hk, h1]; exact dq_zero
    rw [← hk]
    subst hk0
    clear h h1 hk
    go_enter Tryz.func84, Tryz.ntmps84
    go_wp2
    go_ret
    exact ⟨by rw [HS.out]; rfl, (Below.refl _ _).alloc (Nat.le_refl _) _⟩
  · have hb : b = false := by rw [h.2.out]; exact decide_eq_false (by omega)
    subst hb
    have HS : Hid (z.sign = 1) := Int.sign_eq_one_of_pos h1
    have hq : 0 < dq z.natAbs := dq_pos.2 (by omega)
    clear h h1
    go_enter Tryz.func84, Tryz.ntmps84
    go_wp2
    go_ret
    exact ⟨by rw [HS.out]; rfl, (Below.refl _ _).alloc (Nat.le_refl _) _⟩
theorem rz_two {w0 w2 : World} {p : Nat} {b0 : Bool} {B0 : Option Addr} {k0 d0 : Nat} {A : Option Addr} {c : Nat} (hp : At w2 p [.bool b0, .slice B0 k0 d0]) (h : Rn w2 A c z.natAbs) (hs : Hid (s = decide (z < 0))) (hb : Bel w0 w2) (hq : w0.heap.size ≤ p) :
    RZv w0 s z (.returned (.agg #[.bool s, .slice A (dq z.natAbs) c])) ((w2.setCell ⟨p, 0, none⟩ (.bool s)).setCell ⟨p, 1, none⟩ (.slice A (dq z.natAbs) c)) :=
  ⟨A, c, rfl, ⟨h.put2 hp, hs⟩, (Below.setCell hb hq _).setCell hq _⟩
theorem sig_of {nb : Bool} {v : Int} (h : v = zi nb v.natAbs) : decide (v < 0) = (nb && decide (0 < v.natAbs)) := zsig h
set_option maxHeartbeats 1000000 in
theorem rzneg_true (h : Rz W true A c z) (hs : s = decide (v < 0)) (hv : v = -z) : Calls Tryz.prog 82 #[.agg #[.bool true, .slice A (dq z.natAbs) c]] W (RZv W s v) := by
  have ha : z.natAbs = v.natAbs := by omega
  have hzi : v = zi false v.natAbs := by have h1 := h.zi; unfold zi at *; simp at *; omega
  have CZ : Hid (∀ W', Bel W W' → Calls Tryz.prog 24 #[.bool false, .slice A (dq z.natAbs) c] W' (RZb W' s A (dq z.natAbs) c z.natAbs)) := fun W' hb => rzof_h (h.1.up hb) (by rw [hs, sig_of hzi, ha])
  have HA := hide ha
  have HS := hide hs
  clear h hs hv ha hzi
  have HB := Bel.refl W
  go_enter Tryz.func82, Tryz.ntmps82
  go_wp2_with (first | (go_at_call 24; (with_reducible refine (CZ.out _ ((HB.al _).al _)).mono ?_); rintro e w1 ⟨rfl, rn, hbk⟩; (with_reducible (have HR : At w1 (W.heap.size + 1) [.bool false, .slice none 0 0] := At.up (at_new1 _ _ _ _) hbk; replace HB := ((HB.al _).al _).up hbk)); have hr_0 := HR.c0; have hr_1 := HR.c1; have hr_l := HR.lt; have hr_f0 := HR.f0; have hr_f1 := HR.f1) | fail)
  refine bodyPost_ret (v := .agg #[.bool s, .slice A (dq z.natAbs) c]) (by simp [results, Tryz.results82, go_sem, hr_0, hr_1]) rfl ?_
  have h1 := HA.out
  rw [h1] at rn ⊢
  exact rz_two HR rn HS HB (by omega)
set_option maxHeartbeats 1000000 in
theorem rzneg_false (h : Rz W false A c z) (hs : s = decide (v < 0)) (hv : v = -z) : Calls Tryz.prog 82 #[.agg #[.bool false, .slice A (dq z.natAbs) c]] W (RZv W s v) := by
  have ha : z.natAbs = v.natAbs := by omega
  have hzi : v = zi true v.natAbs := by have h1 := h.zi; unfold zi at *; simp at *; omega
  have CZ : Hid (∀ W', Bel W W' → Calls Tryz.prog 24 #[.bool true, .slice A (dq z.natAbs) c] W' (RZb W' s A (dq z.natAbs) c z.natAbs)) := fun W' hb => rzof_h (h.1.up hb) (by rw [hs, sig_of hzi, ha])
  have HA := hide ha
  have HS := hide hs
  clear h hs hv ha hzi
  have HB := Bel.refl W
  go_enter Tryz.func82, Tryz.ntmps82
  go_wp2_with (first | (go_at_call 24; (with_reducible refine (CZ.out _ ((HB.al _).al _)).mono ?_); rintro e w1 ⟨rfl, rn, hbk⟩; (with_reducible (have HR : At w1 (W.heap.size + 1) [.bool false, .slice none 0 0] := At.up (at_new1 _ _ _ _) hbk; replace HB := ((HB.al _).al _).up hbk)); have hr_0 := HR.c0; have hr_1 := HR.c1; have hr_l := HR.lt; have hr_f0 := HR.f0; have hr_f1 := HR.f1) | fail)
  refine bodyPost_ret (v := .agg #[.bool s, .slice A (dq z.natAbs) c]) (by simp [results, Tryz.results82, go_sem, hr_0, hr_1]) rfl ?_
  have h1 := HA.out
  rw [h1] at rn ⊢
  exact rz_two HR rn HS HB (by omega)
theorem rzneg_h (h : Rz W b A c z) (hs : s = decide (v < 0)) (hv : v = -z) : Calls Tryz.prog 82 #[.agg #[.bool b, .slice A (dq z.natAbs) c]] W (RZv W s v) := by
  cases b
  · exact rzneg_false h hs hv
  · exact rzneg_true h hs hv
set_option maxHeartbeats 2000000 in
theorem rzmul_true_true (h : Rz W true A c z) (h' : Rz W true A' c' z') (hl : dq z.natAbs ≤ 99999) (hl' : dq z'.natAbs ≤ 99999) (hs : s = decide (v < 0)) (hv : v = z * z') : Calls Tryz.prog 81 #[.agg #[.bool true, .slice A (dq z.natAbs) c], .agg #[.bool true, .slice A' (dq z'.natAbs) c']] W (RZv W s v) := by
  have ha : v.natAbs = z.natAbs * z'.natAbs := by rw [hv, Int.natAbs_mul]
  have hzi : v = zi false v.natAbs := by
    rw [ha]
    have h1 := h.zi
    have h2 := h'.zi
    simp only [zi_true, zi_false] at h1 h2 ⊢
    rw [hv, Int.natCast_mul]
    generalize (z.natAbs : Int) = x at h1 ⊢
    generalize (z'.natAbs : Int) = y at h2 ⊢
    rw [h1, h2]
    all_goals first | rw [Int.neg_mul_neg] | rw [Int.neg_mul] | rw [Int.mul_neg]
  have CM : Hid (∀ W', Bel W W' → Calls Tryz.prog 49 #[.slice A (dq z.natAbs) c, .slice A' (dq z'.natAbs) c'] W' (RefRz W' v.natAbs)) := fun W' hb => by rw [ha]; exact rMul_any (h.1.up hb) (h'.1.up hb) (by omega) (by omega)
  have CZ : Hid (∀ W' B e, Rn W' B e v.natAbs → Calls Tryz.prog 24 #[.bool false, .slice B (dq v.natAbs) e] W' (RZb W' s B (dq v.natAbs) e v.natAbs)) := fun W' B e hn => rzof_h hn (by rw [hs, sig_of hzi])
  have HS := hide hs
  clear h h' hl hl' hs hv ha hzi
  have HB := Bel.refl W
  go_enter Tryz.func81, Tryz.ntmps81
  go_wp2_with fail
  go_region_held3 (fun w' => w'.cell? ⟨W.heap.size, 0, none⟩ = some (.bool true) ∧ w'.cell? ⟨W.heap.size, 1, none⟩ = some (.slice A (dq z.natAbs) c) ∧ w'.cell? ⟨W.heap.size + 1, 0, none⟩ = some (.bool true) ∧ w'.cell? ⟨W.heap.size + 1, 1, none⟩ = some (.slice A' (dq z'.natAbs) c'))
    (first | with_reducible exact ⟨(((at_new0 _ _ _).al _).al _).dr.c0, (((at_new0 _ _ _).al _).al _).dr.c1, ((at_new1 _ _ _ _).al _).dr.c0, ((at_new1 _ _ _ _).al _).dr.c1⟩ | with_reducible exact ⟨HP.c0, HP.c1, HQ.c0, HQ.c1⟩ | exact ⟨((HP.far (by omega) _).far (by omega) _).c0, ((HP.far (by omega) _).far (by omega) _).c1, ((HQ.far (by omega) _).far (by omega) _).c0, ((HQ.far (by omega) _).far (by omega) _).c1⟩)
    (first | (go_at_call 49; (with_reducible refine (CM.out _ (((HB.al _).al _).al _).dr).mono ?_); rintro e w1 ⟨mA, mc, rfl, rm, hbk⟩; (with_reducible (have HP : At w1 W.heap.size [.bool true, .slice A (dq z.natAbs) c] := At.up (((at_new0 _ _ _).al _).al _).dr hbk; have HQ : At w1 (W.heap.size + 1) [.bool true, .slice A' (dq z'.natAbs) c'] := At.up ((at_new1 _ _ _ _).al _).dr hbk; have HR : At w1 (W.heap.size + 1 + 1) [.bool false, .slice none 0 0] := At.up (at_new2 _ _ _ _ _).dr hbk; replace HB := ((((HB.al _).al _).al _).dr).up hbk))) | (go_at_call 24; (with_reducible refine (CZ.out _ _ _ rm).mono ?_); rintro e w2 ⟨rfl, rn, hbk⟩; (with_reducible (replace HB := HB.up hbk; replace HP := HP.up hbk; replace HQ := HQ.up hbk; replace HR := HR.up hbk)); have hr_0 := HR.c0; have hr_1 := HR.c1; have hr_l := HR.lt; have hr_f0 := HR.f0; have hr_f1 := HR.f1) | fail)
  go_wp2_with fail
  refine bodyPost_ret (v := .agg #[.bool s, .slice mA (dq v.natAbs) mc]) (by simp [results, Tryz.results81, go_sem, hr_0, hr_1]) rfl ?_
  exact rz_two HR rn HS HB (by omega)
set_option maxHeartbeats 2000000 in
theorem rzmul_true_false (h : Rz W true A c z) (h' : Rz W false A' c' z') (hl : dq z.natAbs ≤ 99999) (hl' : dq z'.natAbs ≤ 99999) (hs : s = decide (v < 0)) (hv : v = z * z') : Calls Tryz.prog 81 #[.agg #[.bool true, .slice A (dq z.natAbs) c], .agg #[.bool false, .slice A' (dq z'.natAbs) c']] W (RZv W s v) := by
  have ha : v.natAbs = z.natAbs * z'.natAbs := by rw [hv, Int.natAbs_mul]
  have hzi : v = zi true v.natAbs := by
    rw [ha]
    have h1 := h.zi
    have h2 := h'.zi
    simp only [zi_true, zi_false] at h1 h2 ⊢
    rw [hv, Int.natCast_mul]
    generalize (z.natAbs : Int) = x at h1 ⊢
    generalize (z'.natAbs : Int) = y at h2 ⊢
    rw [h1, h2]
    all_goals first | rw [Int.neg_mul_neg] | rw [Int.neg_mul] | rw [Int.mul_neg]
  have CM : Hid (∀ W', Bel W W' → Calls Tryz.prog 49 #[.slice A (dq z.natAbs) c, .slice A' (dq z'.natAbs) c'] W' (RefRz W' v.natAbs)) := fun W' hb => by rw [ha]; exact rMul_any (h.1.up hb) (h'.1.up hb) (by omega) (by omega)
  have CZ : Hid (∀ W' B e, Rn W' B e v.natAbs → Calls Tryz.prog 24 #[.bool true, .slice B (dq v.natAbs) e] W' (RZb W' s B (dq v.natAbs) e v.natAbs)) := fun W' B e hn => rzof_h hn (by rw [hs, sig_of hzi])
  have HS := hide hs
  clear h h' hl hl' hs hv ha hzi
  have HB := Bel.refl W
  go_enter Tryz.func81, Tryz.ntmps81
  go_wp2_with fail
  go_region_held3 (fun w' => w'.cell? ⟨W.heap.size, 0, none⟩ = some (.bool true) ∧ w'.cell? ⟨W.heap.size, 1, none⟩ = some (.slice A (dq z.natAbs) c) ∧ w'.cell? ⟨W.heap.size + 1, 0, none⟩ = some (.bool false) ∧ w'.cell? ⟨W.heap.size + 1, 1, none⟩ = some (.slice A' (dq z'.natAbs) c'))
    (first | with_reducible exact ⟨(((at_new0 _ _ _).al _).al _).dr.c0, (((at_new0 _ _ _).al _).al _).dr.c1, ((at_new1 _ _ _ _).al _).dr.c0, ((at_new1 _ _ _ _).al _).dr.c1⟩ | with_reducible exact ⟨HP.c0, HP.c1, HQ.c0, HQ.c1⟩ | exact ⟨((HP.far (by omega) _).far (by omega) _).c0, ((HP.far (by omega) _).far (by omega) _).c1, ((HQ.far (by omega) _).far (by omega) _).c0, ((HQ.far (by omega) _).far (by omega) _).c1⟩)
    (first | (go_at_call 49; (with_reducible refine (CM.out _ (((HB.al _).al _).al _).dr).mono ?_); rintro e w1 ⟨mA, mc, rfl, rm, hbk⟩; (with_reducible (have HP : At w1 W.heap.size [.bool true, .slice A (dq z.natAbs) c] := At.up (((at_new0 _ _ _).al _).al _).dr hbk; have HQ : At w1 (W.heap.size + 1) [.bool false, .slice A' (dq z'.natAbs) c'] := At.up ((at_new1 _ _ _ _).al _).dr hbk; have HR : At w1 (W.heap.size + 1 + 1) [.bool false, .slice none 0 0] := At.up (at_new2 _ _ _ _ _).dr hbk; replace HB := ((((HB.al _).al _).al _).dr).up hbk))) | (go_at_call 24; (with_reducible refine (CZ.out _ _ _ rm).mono ?_); rintro e w2 ⟨rfl, rn, hbk⟩; (with_reducible (replace HB := HB.up hbk; replace HP := HP.up hbk; replace HQ := HQ.up hbk; replace HR := HR.up hbk)); have hr_0 := HR.c0; have hr_1 := HR.c1; have hr_l := HR.lt; have hr_f0 := HR.f0; have hr_f1 := HR.f1) | fail)
  go_wp2_with fail
  refine bodyPost_ret (v := .agg #[.bool s, .slice mA (dq v.natAbs) mc]) (by simp [results, Tryz.results81, go_sem, hr_0, hr_1]) rfl ?_
  exact rz_two HR rn HS HB (by omega)
set_option maxHeartbeats 2000000 in
theorem rzmul_false_true (h : Rz W false A c z) (h' : Rz W true A' c' z') (hl : dq z.natAbs ≤ 99999) (hl' : dq z'.natAbs ≤ 99999) (hs : s = decide (v < 0)) (hv : v = z * z') : Calls Tryz.prog 81 #[.agg #[.bool false, .slice A (dq z.natAbs) c], .agg #[.bool true, .slice A' (dq z'.natAbs) c']] W (RZv W s v) := by
  have ha : v.natAbs = z.natAbs * z'.natAbs := by rw [hv, Int.natAbs_mul]
  have hzi : v = zi true v.natAbs := by
    rw [ha]
    have h1 := h.zi
    have h2 := h'.zi
    simp only [zi_true, zi_false] at h1 h2 ⊢
    rw [hv, Int.natCast_mul]
    generalize (z.natAbs : Int) = x at h1 ⊢
    generalize (z'.natAbs : Int) = y at h2 ⊢
    rw [h1, h2]
    all_goals first | rw [Int.neg_mul_neg] | rw [Int.neg_mul] | rw [Int.mul_neg]
  have CM : Hid (∀ W', Bel W W' → Calls Tryz.prog 49 #[.slice A (dq z.natAbs) c, .slice A' (dq z'.natAbs) c'] W' (RefRz W' v.natAbs)) := fun W' hb => by rw [ha]; exact rMul_any (h.1.up hb) (h'.1.up hb) (by omega) (by omega)
  have CZ : Hid (∀ W' B e, Rn W' B e v.natAbs → Calls Tryz.prog 24 #[.bool true, .slice B (dq v.natAbs) e] W' (RZb W' s B (dq v.natAbs) e v.natAbs)) := fun W' B e hn => rzof_h hn (by rw [hs, sig_of hzi])
  have HS := hide hs
  clear h h' hl hl' hs hv ha hzi
  have HB := Bel.refl W
  go_enter Tryz.func81, Tryz.ntmps81
  go_wp2_with fail
  go_region_held3 (fun w' => w'.cell? ⟨W.heap.size, 0, none⟩ = some (.bool false) ∧ w'.cell? ⟨W.heap.size, 1, none⟩ = some (.slice A (dq z.natAbs) c) ∧ w'.cell? ⟨W.heap.size + 1, 0, none⟩ = some (.bool true) ∧ w'.cell? ⟨W.heap.size + 1, 1, none⟩ = some (.slice A' (dq z'.natAbs) c'))
    (first | with_reducible exact ⟨(((at_new0 _ _ _).al _).al _).dr.c0, (((at_new0 _ _ _).al _).al _).dr.c1, ((at_new1 _ _ _ _).al _).dr.c0, ((at_new1 _ _ _ _).al _).dr.c1⟩ | with_reducible exact ⟨HP.c0, HP.c1, HQ.c0, HQ.c1⟩ | exact ⟨((HP.far (by omega) _).far (by omega) _).c0, ((HP.far (by omega) _).far (by omega) _).c1, ((HQ.far (by omega) _).far (by omega) _).c0, ((HQ.far (by omega) _).far (by omega) _).c1⟩)
    (first | (go_at_call 49; (with_reducible refine (CM.out _ (((HB.al _).al _).al _).dr).mono ?_); rintro e w1 ⟨mA, mc, rfl, rm, hbk⟩; (with_reducible (have HP : At w1 W.heap.size [.bool false, .slice A (dq z.natAbs) c] := At.up (((at_new0 _ _ _).al _).al _).dr hbk; have HQ : At w1 (W.heap.size + 1) [.bool true, .slice A' (dq z'.natAbs) c'] := At.up ((at_new1 _ _ _ _).al _).dr hbk; have HR : At w1 (W.heap.size + 1 + 1) [.bool false, .slice none 0 0] := At.up (at_new2 _ _ _ _ _).dr hbk; replace HB := ((((HB.al _).al _).al _).dr).up hbk))) | (go_at_call 24; (with_reducible refine (CZ.out _ _ _ rm).mono ?_); rintro e w2 ⟨rfl, rn, hbk⟩; (with_reducible (replace HB := HB.up hbk; replace HP := HP.up hbk; replace HQ := HQ.up hbk; replace HR := HR.up hbk)); have hr_0 := HR.c0; have hr_1 := HR.c1; have hr_l := HR.lt; have hr_f0 := HR.f0; have hr_f1 := HR.f1) | fail)
  go_wp2_with fail
  refine bodyPost_ret (v := .agg #[.bool s, .slice mA (dq v.natAbs) mc]) (by simp [results, Tryz.results81, go_sem, hr_0, hr_1]) rfl ?_
  exact rz_two HR rn HS HB (by omega)
set_option maxHeartbeats 2000000 in
theorem rzmul_false_false (h : Rz W false A c z) (h' : Rz W false A' c' z') (hl : dq z.natAbs ≤ 99999) (hl' : dq z'.natAbs ≤ 99999) (hs : s = decide (v < 0)) (hv : v = z * z') : Calls Tryz.prog 81 #[.agg #[.bool false, .slice A (dq z.natAbs) c], .agg #[.bool false, .slice A' (dq z'.natAbs) c']] W (RZv W s v) := by
  have ha : v.natAbs = z.natAbs * z'.natAbs := by rw [hv, Int.natAbs_mul]
  have hzi : v = zi false v.natAbs := by
    rw [ha]
    have h1 := h.zi
    have h2 := h'.zi
    simp only [zi_true, zi_false] at h1 h2 ⊢
    rw [hv, Int.natCast_mul]
    generalize (z.natAbs : Int) = x at h1 ⊢
    generalize (z'.natAbs : Int) = y at h2 ⊢
    rw [h1, h2]
    all_goals first | rw [Int.neg_mul_neg] | rw [Int.neg_mul] | rw [Int.mul_neg]
  have CM : Hid (∀ W', Bel W W' → Calls Tryz.prog 49 #[.slice A (dq z.natAbs) c, .slice A' (dq z'.natAbs) c'] W' (RefRz W' v.natAbs)) := fun W' hb => by rw [ha]; exact rMul_any (h.1.up hb) (h'.1.up hb) (by omega) (by omega)
  have CZ : Hid (∀ W' B e, Rn W' B e v.natAbs → Calls Tryz.prog 24 #[.bool false, .slice B (dq v.natAbs) e] W' (RZb W' s B (dq v.natAbs) e v.natAbs)) := fun W' B e hn => rzof_h hn (by rw [hs, sig_of hzi])
  have HS := hide hs
  clear h h' hl hl' hs hv ha hzi
  have HB := Bel.refl W
  go_enter Tryz.func81, Tryz.ntmps81
  go_wp2_with fail
  go_region_held3 (fun w' => w'.cell? ⟨W.heap.size, 0, none⟩ = some (.bool false) ∧ w'.cell? ⟨W.heap.size, 1, none⟩ = some (.slice A (dq z.natAbs) c) ∧ w'.cell? ⟨W.heap.size + 1, 0, none⟩ = some (.bool false) ∧ w'.cell? ⟨W.heap.size + 1, 1, none⟩ = some (.slice A' (dq z'.natAbs) c'))
    (first | with_reducible exact ⟨(((at_new0 _ _ _).al _).al _).dr.c0, (((at_new0 _ _ _).al _).al _).dr.c1, ((at_new1 _ _ _ _).al _).dr.c0, ((at_new1 _ _ _ _).al _).dr.c1⟩ | with_reducible exact ⟨HP.c0, HP.c1, HQ.c0, HQ.c1⟩ | exact ⟨((HP.far (by omega) _).far (by omega) _).c0, ((HP.far (by omega) _).far (by omega) _).c1, ((HQ.far (by omega) _).far (by omega) _).c0, ((HQ.far (by omega) _).far (by omega) _).c1⟩)
    (first | (go_at_call 49; (with_reducible refine (CM.out _ (((HB.al _).al _).al _).dr).mono ?_); rintro e w1 ⟨mA, mc, rfl, rm, hbk⟩; (with_reducible (have HP : At w1 W.heap.size [.bool false, .slice A (dq z.natAbs) c] := At.up (((at_new0 _ _ _).al _).al _).dr hbk; have HQ : At w1 (W.heap.size + 1) [.bool false, .slice A' (dq z'.natAbs) c'] := At.up ((at_new1 _ _ _ _).al _).dr hbk; have HR : At w1 (W.heap.size + 1 + 1) [.bool false, .slice none 0 0] := At.up (at_new2 _ _ _ _ _).dr hbk; replace HB := ((((HB.al _).al _).al _).dr).up hbk))) | (go_at_call 24; (with_reducible refine (CZ.out _ _ _ rm).mono ?_); rintro e w2 ⟨rfl, rn, hbk⟩; (with_reducible (replace HB := HB.up hbk; replace HP := HP.up hbk; replace HQ := HQ.up hbk; replace HR := HR.up hbk)); have hr_0 := HR.c0; have hr_1 := HR.c1; have hr_l := HR.lt; have hr_f0 := HR.f0; have hr_f1 := HR.f1) | fail)
  go_wp2_with fail
  refine bodyPost_ret (v := .agg #[.bool s, .slice mA (dq v.natAbs) mc]) (by simp [results, Tryz.results81, go_sem, hr_0, hr_1]) rfl ?_
  exact rz_two HR rn HS HB (by omega)
theorem rzmul_h (h : Rz W b A c z) (h' : Rz W b' A' c' z') (hl : dq z.natAbs ≤ 99999) (hl' : dq z'.natAbs ≤ 99999) (hs : s = decide (v < 0)) (hv : v = z * z') : Calls Tryz.prog 81 #[.agg #[.bool b, .slice A (dq z.natAbs) c], .agg #[.bool b', .slice A' (dq z'.natAbs) c']] W (RZv W s v) := by
  cases b <;> cases b'
  · exact rzmul_false_false h h' hl hl' hs hv
  · exact rzmul_false_true h h' hl hl' hs hv
  · exact rzmul_true_false h h' hl hl' hs hv
  · exact rzmul_true_true h h' hl hl' hs hv
end
end Go.Proofs.YtmiklffjffdkgaaGreatDoor
end

section
/- The document's own integers: ZAdd, ZCmp, ZText. Conditions: less than 99999 fours of digits. -/
open Go.RowKit
set_option maxRecDepth 100000
namespace Go.Proofs.YtmiklffjffdkgaaGreatDoor
theorem rcmp_z {W : World} {A A' : Option Addr} {c c' m n : Nat} {v : Int} (h : Rn W A c m) (h' : Rn W A' c' n) (hl : dq m ≤ 1000000) (hl' : dq n ≤ 1000000) (hv : cmpI m n = v) : Calls Tryz.prog 77 #[.slice A (dq m) c, .slice A' (dq n) c'] W (IntPost W v) := by
  subst hv
  refine (rCmp_any h h' hl hl').mono ?_
  rintro e w' ⟨he, q, rfl⟩
  exact ⟨he, below_drewN (Below.refl _ _) q⟩
section
variable {W : World} {b b' s : Bool} {A A' : Option Addr} {c c' : Nat} {z z' v : Int}
set_option maxHeartbeats 2000000 in
theorem rzadd_same_true_true (h : Rz W true A c z) (h' : Rz W true A' c' z') (hl : dq z.natAbs ≤ 99999) (hl' : dq z'.natAbs ≤ 99999) (hs : s = decide (v < 0)) (hv : v = z + z') : Calls Tryz.prog 36 #[.agg #[.bool true, .slice A (dq z.natAbs) c], .agg #[.bool true, .slice A' (dq z'.natAbs) c']] W (RZv W s v) := by
  have h1 := h.zi
  have h2 := h'.zi
  simp only [zi_true, zi_false] at h1 h2
  have ha : v.natAbs = z.natAbs + z'.natAbs := by omega
  have hzi : v = zi true v.natAbs := by simp only [zi_true, zi_false]; omega
  have CM : Hid (∀ W', Bel W W' → Calls Tryz.prog 53 #[.slice A (dq z.natAbs) c, .slice A' (dq z'.natAbs) c'] W' (RefRz W' v.natAbs)) := fun W' hb => by rw [ha]; exact rAdd_any (h.1.up hb) (h'.1.up hb) (by omega) (by omega)
  have CZ : Hid (∀ W' B e, Rn W' B e v.natAbs → Calls Tryz.prog 24 #[.bool true, .slice B (dq v.natAbs) e] W' (RZb W' s B (dq v.natAbs) e v.natAbs)) := fun W' B e hn => rzof_h hn (by rw [hs, sig_of hzi])
  have HS := hide hs
  clear h h' hl hl' hs hv ha hzi h1 h2
  have HB := Bel.refl W
  go_enter Tryz.func36, Tryz.ntmps36
  go_wp2_with fail
  go_region_held3 (fun w' => w'.cell? ⟨W.heap.size, 0, none⟩ = some (.bool true) ∧ w'.cell? ⟨W.heap.size, 1, none⟩ = some (.slice A (dq z.natAbs) c) ∧ w'.cell? ⟨W.heap.size + 1, 0, none⟩ = some (.bool true) ∧ w'.cell? ⟨W.heap.size + 1, 1, none⟩ = some (.slice A' (dq z'.natAbs) c'))
    (first | with_reducible exact ⟨(((at_new0 _ _ _).al _).al _).dr.c0, (((at_new0 _ _ _).al _).al _).dr.c1, ((at_new1 _ _ _ _).al _).dr.c0, ((at_new1 _ _ _ _).al _).dr.c1⟩ | with_reducible exact ⟨HP.c0, HP.c1, HQ.c0, HQ.c1⟩ | exact ⟨((HP.far (by omega) _).far (by omega) _).c0, ((HP.far (by omega) _).far (by omega) _).c1, ((HQ.far (by omega) _).far (by omega) _).c0, ((HQ.far (by omega) _).far (by omega) _).c1⟩)
    (first | (go_at_call 53; (with_reducible refine (CM.out _ (((HB.al _).al _).al _).dr).mono ?_); rintro e w1 ⟨mA, mc, rfl, rm, hbk⟩; (with_reducible (have HP : At w1 W.heap.size [.bool true, .slice A (dq z.natAbs) c] := At.up (((at_new0 _ _ _).al _).al _).dr hbk; have HQ : At w1 (W.heap.size + 1) [.bool true, .slice A' (dq z'.natAbs) c'] := At.up ((at_new1 _ _ _ _).al _).dr hbk; have HR : At w1 (W.heap.size + 1 + 1) [.bool false, .slice none 0 0] := At.up (at_new2 _ _ _ _ _).dr hbk; replace HB := (((HB.al _).al _).al _).dr.up hbk))) | (go_at_call 24; (with_reducible refine (CZ.out _ _ _ rm).mono ?_); rintro e w2 ⟨rfl, rn, hbk⟩; (with_reducible (replace HB := HB.up hbk; replace HP := HP.up hbk; replace HQ := HQ.up hbk; replace HR := HR.up hbk)); have hr_0 := HR.c0; have hr_1 := HR.c1; have hr_l := HR.lt; have hr_f0 := HR.f0; have hr_f1 := HR.f1) | fail)
  go_wp2_with fail
  refine bodyPost_ret (v := .agg #[.bool s, .slice mA (dq v.natAbs) mc]) (by simp [results, Tryz.results36, go_sem, hr_0, hr_1]) rfl ?_
  exact rz_two HR rn HS HB (by omega)
set_option maxHeartbeats 2000000 in
theorem rzadd_ge_true_false (h : Rz W true A c z) (h' : Rz W false A' c' z') (hl : dq z.natAbs ≤ 99999) (hl' : dq z'.natAbs ≤ 99999) (hs : s = decide (v < 0)) (hv : v = z + z') (hc : z'.natAbs ≤ z.natAbs) : Calls Tryz.prog 36 #[.agg #[.bool true, .slice A (dq z.natAbs) c], .agg #[.bool false, .slice A' (dq z'.natAbs) c']] W (RZv W s v) := by
  have h1 := h.zi
  have h2 := h'.zi
  simp only [zi_true, zi_false] at h1 h2
  have ha : v.natAbs = z.natAbs - z'.natAbs := by omega
  have hzi : v = zi true v.natAbs := by simp only [zi_true, zi_false]; omega
  obtain ⟨u, hu, hu0⟩ : ∃ u, cmpI z.natAbs z'.natAbs = u ∧ 0 ≤ u := ⟨_, rfl, by
    rcases Nat.lt_trichotomy z.natAbs z'.natAbs with h1 | h1 | h1
    · first | (rw [cmpI_lt h1]; decide) | (exfalso; omega)
    · first | (rw [cmpI_eq h1]; decide) | (exfalso; omega)
    · first | (rw [cmpI_gt h1]; decide) | (exfalso; omega)⟩
  have CC : Hid (∀ W', Bel W W' → Calls Tryz.prog 77 #[.slice A (dq z.natAbs) c, .slice A' (dq z'.natAbs) c'] W' (IntPost W' u)) := fun W' hb => rcmp_z (h.1.up hb) (h'.1.up hb) (by omega) (by omega) hu
  have CM : Hid (∀ W', Bel W W' → Calls Tryz.prog 80 #[.slice A (dq z.natAbs) c, .slice A' (dq z'.natAbs) c'] W' (RefRz W' v.natAbs)) := fun W' hb => by rw [ha]; exact rSub_any (h.1.up hb) (h'.1.up hb) (by omega) hc
  have CZ : Hid (∀ W' B e, Rn W' B e v.natAbs → Calls Tryz.prog 24 #[.bool true, .slice B (dq v.natAbs) e] W' (RZb W' s B (dq v.natAbs) e v.natAbs)) := fun W' B e hn => rzof_h hn (by rw [hs, sig_of hzi])
  have HS := hide hs
  clear h h' hl hl' hs hv ha hzi h1 h2 hc hu
  have HB := Bel.refl W
  go_enter Tryz.func36, Tryz.ntmps36
  go_wp2_with (first | (go_at_call 77; (with_reducible refine (CC.out _ (((HB.al _).al _).al _)).mono ?_); rintro e w1 ⟨rfl, hbk⟩; (with_reducible (have HP : At w1 W.heap.size [.bool true, .slice A (dq z.natAbs) c] := At.up (((at_new0 _ _ _).al _).al _) hbk; have HQ : At w1 (W.heap.size + 1) [.bool false, .slice A' (dq z'.natAbs) c'] := At.up ((at_new1 _ _ _ _).al _) hbk; have HR : At w1 (W.heap.size + 1 + 1) [.bool false, .slice none 0 0] := At.up (at_new2 _ _ _ _ _) hbk; replace HB := (((HB.al _).al _).al _).up hbk))) | fail)
  go_region_held3 (fun w' => w'.cell? ⟨W.heap.size, 0, none⟩ = some (.bool true) ∧ w'.cell? ⟨W.heap.size, 1, none⟩ = some (.slice A (dq z.natAbs) c) ∧ w'.cell? ⟨W.heap.size + 1, 0, none⟩ = some (.bool false) ∧ w'.cell? ⟨W.heap.size + 1, 1, none⟩ = some (.slice A' (dq z'.natAbs) c'))
    (first | with_reducible exact ⟨HP.dr.c0, HP.dr.c1, HQ.dr.c0, HQ.dr.c1⟩ | with_reducible exact ⟨HP.c0, HP.c1, HQ.c0, HQ.c1⟩ | exact ⟨((HP.far (by omega) _).far (by omega) _).c0, ((HP.far (by omega) _).far (by omega) _).c1, ((HQ.far (by omega) _).far (by omega) _).c0, ((HQ.far (by omega) _).far (by omega) _).c1⟩)
    (first | (go_at_call 80; (with_reducible refine (CM.out _ HB.dr).mono ?_); rintro e w2 ⟨mA, mc, rfl, rm, hbk⟩; (with_reducible (replace HB := HB.dr.up hbk; replace HP := HP.dr.up hbk; replace HQ := HQ.dr.up hbk; replace HR := HR.dr.up hbk))) | (go_at_call 24; (with_reducible refine (CZ.out _ _ _ rm).mono ?_); rintro e w3 ⟨rfl, rn, hbk⟩; (with_reducible (replace HB := HB.up hbk; replace HP := HP.up hbk; replace HQ := HQ.up hbk; replace HR := HR.up hbk)); have hr_0 := HR.c0; have hr_1 := HR.c1; have hr_l := HR.lt; have hr_f0 := HR.f0; have hr_f1 := HR.f1) | fail)
  go_wp2_with fail
  refine bodyPost_ret (v := .agg #[.bool s, .slice mA (dq v.natAbs) mc]) (by simp [results, Tryz.results36, go_sem, hr_0, hr_1]) rfl ?_
  exact rz_two HR rn HS HB (by omega)
set_option maxHeartbeats 2000000 in
theorem rzadd_lt_true_false (h : Rz W true A c z) (h' : Rz W false A' c' z') (hl : dq z.natAbs ≤ 99999) (hl' : dq z'.natAbs ≤ 99999) (hs : s = decide (v < 0)) (hv : v = z + z') (hc : ¬ z'.natAbs ≤ z.natAbs) : Calls Tryz.prog 36 #[.agg #[.bool true, .slice A (dq z.natAbs) c], .agg #[.bool false, .slice A' (dq z'.natAbs) c']] W (RZv W s v) := by
  have h1 := h.zi
  have h2 := h'.zi
  simp only [zi_true, zi_false] at h1 h2
  have ha : v.natAbs = z'.natAbs - z.natAbs := by omega
  have hzi : v = zi false v.natAbs := by simp only [zi_true, zi_false]; omega
  obtain ⟨u, hu, hu0⟩ : ∃ u, cmpI z.natAbs z'.natAbs = u ∧ ¬ 0 ≤ u := ⟨_, rfl, by
    rcases Nat.lt_trichotomy z.natAbs z'.natAbs with h1 | h1 | h1
    · first | (rw [cmpI_lt h1]; decide) | (exfalso; omega)
    · first | (rw [cmpI_eq h1]; decide) | (exfalso; omega)
    · first | (rw [cmpI_gt h1]; decide) | (exfalso; omega)⟩
  have CC : Hid (∀ W', Bel W W' → Calls Tryz.prog 77 #[.slice A (dq z.natAbs) c, .slice A' (dq z'.natAbs) c'] W' (IntPost W' u)) := fun W' hb => rcmp_z (h.1.up hb) (h'.1.up hb) (by omega) (by omega) hu
  have CM : Hid (∀ W', Bel W W' → Calls Tryz.prog 80 #[.slice A' (dq z'.natAbs) c', .slice A (dq z.natAbs) c] W' (RefRz W' v.natAbs)) := fun W' hb => by rw [ha]; exact rSub_any (h'.1.up hb) (h.1.up hb) (by omega) (by omega)
  have CZ : Hid (∀ W' B e, Rn W' B e v.natAbs → Calls Tryz.prog 24 #[.bool false, .slice B (dq v.natAbs) e] W' (RZb W' s B (dq v.natAbs) e v.natAbs)) := fun W' B e hn => rzof_h hn (by rw [hs, sig_of hzi])
  have HS := hide hs
  clear h h' hl hl' hs hv ha hzi h1 h2 hc hu
  have HB := Bel.refl W
  go_enter Tryz.func36, Tryz.ntmps36
  go_wp2_with (first | (go_at_call 77; (with_reducible refine (CC.out _ (((HB.al _).al _).al _)).mono ?_); rintro e w1 ⟨rfl, hbk⟩; (with_reducible (have HP : At w1 W.heap.size [.bool true, .slice A (dq z.natAbs) c] := At.up (((at_new0 _ _ _).al _).al _) hbk; have HQ : At w1 (W.heap.size + 1) [.bool false, .slice A' (dq z'.natAbs) c'] := At.up ((at_new1 _ _ _ _).al _) hbk; have HR : At w1 (W.heap.size + 1 + 1) [.bool false, .slice none 0 0] := At.up (at_new2 _ _ _ _ _) hbk; replace HB := (((HB.al _).al _).al _).up hbk))) | fail)
  go_region_held3 (fun w' => w'.cell? ⟨W.heap.size, 0, none⟩ = some (.bool true) ∧ w'.cell? ⟨W.heap.size, 1, none⟩ = some (.slice A (dq z.natAbs) c) ∧ w'.cell? ⟨W.heap.size + 1, 0, none⟩ = some (.bool false) ∧ w'.cell? ⟨W.heap.size + 1, 1, none⟩ = some (.slice A' (dq z'.natAbs) c'))
    (first | with_reducible exact ⟨HP.dr.c0, HP.dr.c1, HQ.dr.c0, HQ.dr.c1⟩ | with_reducible exact ⟨HP.c0, HP.c1, HQ.c0, HQ.c1⟩ | exact ⟨((HP.far (by omega) _).far (by omega) _).c0, ((HP.far (by omega) _).far (by omega) _).c1, ((HQ.far (by omega) _).far (by omega) _).c0, ((HQ.far (by omega) _).far (by omega) _).c1⟩)
    (first | (go_at_call 80; (with_reducible refine (CM.out _ HB.dr).mono ?_); rintro e w2 ⟨mA, mc, rfl, rm, hbk⟩; (with_reducible (replace HB := HB.dr.up hbk; replace HP := HP.dr.up hbk; replace HQ := HQ.dr.up hbk; replace HR := HR.dr.up hbk))) | (go_at_call 24; (with_reducible refine (CZ.out _ _ _ rm).mono ?_); rintro e w3 ⟨rfl, rn, hbk⟩; (with_reducible (replace HB := HB.up hbk; replace HP := HP.up hbk; replace HQ := HQ.up hbk; replace HR := HR.up hbk)); have hr_0 := HR.c0; have hr_1 := HR.c1; have hr_l := HR.lt; have hr_f0 := HR.f0; have hr_f1 := HR.f1) | fail)
  go_wp2_with fail
  refine bodyPost_ret (v := .agg #[.bool s, .slice mA (dq v.natAbs) mc]) (by simp [results, Tryz.results36, go_sem, hr_0, hr_1]) rfl ?_
  exact rz_two HR rn HS HB (by omega)
set_option maxHeartbeats 2000000 in
theorem rzadd_same_false_false (h : Rz W false A c z) (h' : Rz W false A' c' z') (hl : dq z.natAbs ≤ 99999) (hl' : dq z'.natAbs ≤ 99999) (hs : s = decide (v < 0)) (hv : v = z + z') : Calls Tryz.prog 36 #[.agg #[.bool false, .slice A (dq z.natAbs) c], .agg #[.bool false, .slice A' (dq z'.natAbs) c']] W (RZv W s v) := by
  have h1 := h.zi
  have h2 := h'.zi
  simp only [zi_true, zi_false] at h1 h2
  have ha : v.natAbs = z.natAbs + z'.natAbs := by omega
  have hzi : v = zi false v.natAbs := by simp only [zi_true, zi_false]; omega
  have CM : Hid (∀ W', Bel W W' → Calls Tryz.prog 53 #[.slice A (dq z.natAbs) c, .slice A' (dq z'.natAbs) c'] W' (RefRz W' v.natAbs)) := fun W' hb => by rw [ha]; exact rAdd_any (h.1.up hb) (h'.1.up hb) (by omega) (by omega)
  have CZ : Hid (∀ W' B e, Rn W' B e v.natAbs → Calls Tryz.prog 24 #[.bool false, .slice B (dq v.natAbs) e] W' (RZb W' s B (dq v.natAbs) e v.natAbs)) := fun W' B e hn => rzof_h hn (by rw [hs, sig_of hzi])
  have HS := hide hs
  clear h h' hl hl' hs hv ha hzi h1 h2
  have HB := Bel.refl W
  go_enter Tryz.func36, Tryz.ntmps36
  go_wp2_with fail
  go_region_held3 (fun w' => w'.cell? ⟨W.heap.size, 0, none⟩ = some (.bool false) ∧ w'.cell? ⟨W.heap.size, 1, none⟩ = some (.slice A (dq z.natAbs) c) ∧ w'.cell? ⟨W.heap.size + 1, 0, none⟩ = some (.bool false) ∧ w'.cell? ⟨W.heap.size + 1, 1, none⟩ = some (.slice A' (dq z'.natAbs) c'))
    (first | with_reducible exact ⟨(((at_new0 _ _ _).al _).al _).dr.c0, (((at_new0 _ _ _).al _).al _).dr.c1, ((at_new1 _ _ _ _).al _).dr.c0, ((at_new1 _ _ _ _).al _).dr.c1⟩ | with_reducible exact ⟨HP.c0, HP.c1, HQ.c0, HQ.c1⟩ | exact ⟨((HP.far (by omega) _).far (by omega) _).c0, ((HP.far (by omega) _).far (by omega) _).c1, ((HQ.far (by omega) _).far (by omega) _).c0, ((HQ.far (by omega) _).far (by omega) _).c1⟩)
    (first | (go_at_call 53; (with_reducible refine (CM.out _ (((HB.al _).al _).al _).dr).mono ?_); rintro e w1 ⟨mA, mc, rfl, rm, hbk⟩; (with_reducible (have HP : At w1 W.heap.size [.bool false, .slice A (dq z.natAbs) c] := At.up (((at_new0 _ _ _).al _).al _).dr hbk; have HQ : At w1 (W.heap.size + 1) [.bool false, .slice A' (dq z'.natAbs) c'] := At.up ((at_new1 _ _ _ _).al _).dr hbk; have HR : At w1 (W.heap.size + 1 + 1) [.bool false, .slice none 0 0] := At.up (at_new2 _ _ _ _ _).dr hbk; replace HB := (((HB.al _).al _).al _).dr.up hbk))) | (go_at_call 24; (with_reducible refine (CZ.out _ _ _ rm).mono ?_); rintro e w2 ⟨rfl, rn, hbk⟩; (with_reducible (replace HB := HB.up hbk; replace HP := HP.up hbk; replace HQ := HQ.up hbk; replace HR := HR.up hbk)); have hr_0 := HR.c0; have hr_1 := HR.c1; have hr_l := HR.lt; have hr_f0 := HR.f0; have hr_f1 := HR.f1) | fail)
  go_wp2_with fail
  refine bodyPost_ret (v := .agg #[.bool s, .slice mA (dq v.natAbs) mc]) (by simp [results, Tryz.results36, go_sem, hr_0, hr_1]) rfl ?_
  exact rz_two HR rn HS HB (by omega)
set_option maxHeartbeats 2000000 in
theorem rzadd_ge_false_true (h : Rz W false A c z) (h' : Rz W true A' c' z') (hl : dq z.natAbs ≤ 99999) (hl' : dq z'.natAbs ≤ 99999) (hs : s = decide (v < 0)) (hv : v = z + z') (hc : z'.natAbs ≤ z.natAbs) : Calls Tryz.prog 36 #[.agg #[.bool false, .slice A (dq z.natAbs) c], .agg #[.bool true, .slice A' (dq z'.natAbs) c']] W (RZv W s v) := by
  have h1 := h.zi
  have h2 := h'.zi
  simp only [zi_true, zi_false] at h1 h2
  have ha : v.natAbs = z.natAbs - z'.natAbs := by omega
  have hzi : v = zi false v.natAbs := by simp only [zi_true, zi_false]; omega
  obtain ⟨u, hu, hu0⟩ : ∃ u, cmpI z.natAbs z'.natAbs = u ∧ 0 ≤ u := ⟨_, rfl, by
    rcases Nat.lt_trichotomy z.natAbs z'.natAbs with h1 | h1 | h1
    · first | (rw [cmpI_lt h1]; decide) | (exfalso; omega)
    · first | (rw [cmpI_eq h1]; decide) | (exfalso; omega)
    · first | (rw [cmpI_gt h1]; decide) | (exfalso; omega)⟩
  have CC : Hid (∀ W', Bel W W' → Calls Tryz.prog 77 #[.slice A (dq z.natAbs) c, .slice A' (dq z'.natAbs) c'] W' (IntPost W' u)) := fun W' hb => rcmp_z (h.1.up hb) (h'.1.up hb) (by omega) (by omega) hu
  have CM : Hid (∀ W', Bel W W' → Calls Tryz.prog 80 #[.slice A (dq z.natAbs) c, .slice A' (dq z'.natAbs) c'] W' (RefRz W' v.natAbs)) := fun W' hb => by rw [ha]; exact rSub_any (h.1.up hb) (h'.1.up hb) (by omega) hc
  have CZ : Hid (∀ W' B e, Rn W' B e v.natAbs → Calls Tryz.prog 24 #[.bool false, .slice B (dq v.natAbs) e] W' (RZb W' s B (dq v.natAbs) e v.natAbs)) := fun W' B e hn => rzof_h hn (by rw [hs, sig_of hzi])
  have HS := hide hs
  clear h h' hl hl' hs hv ha hzi h1 h2 hc hu
  have HB := Bel.refl W
  go_enter Tryz.func36, Tryz.ntmps36
  go_wp2_with (first | (go_at_call 77; (with_reducible refine (CC.out _ (((HB.al _).al _).al _)).mono ?_); rintro e w1 ⟨rfl, hbk⟩; (with_reducible (have HP : At w1 W.heap.size [.bool false, .slice A (dq z.natAbs) c] := At.up (((at_new0 _ _ _).al _).al _) hbk; have HQ : At w1 (W.heap.size + 1) [.bool true, .slice A' (dq z'.natAbs) c'] := At.up ((at_new1 _ _ _ _).al _) hbk; have HR : At w1 (W.heap.size + 1 + 1) [.bool false, .slice none 0 0] := At.up (at_new2 _ _ _ _ _) hbk; replace HB := (((HB.al _).al _).al _).up hbk))) | fail)
  go_region_held3 (fun w' => w'.cell? ⟨W.heap.size, 0, none⟩ = some (.bool false) ∧ w'.cell? ⟨W.heap.size, 1, none⟩ = some (.slice A (dq z.natAbs) c) ∧ w'.cell? ⟨W.heap.size + 1, 0, none⟩ = some (.bool true) ∧ w'.cell? ⟨W.heap.size + 1, 1, none⟩ = some (.slice A' (dq z'.natAbs) c'))
    (first | with_reducible exact ⟨HP.dr.c0, HP.dr.c1, HQ.dr.c0, HQ.dr.c1⟩ | with_reducible exact ⟨HP.c0, HP.c1, HQ.c0, HQ.c1⟩ | exact ⟨((HP.far (by omega) _).far (by omega) _).c0, ((HP.far (by omega) _).far (by omega) _).c1, ((HQ.far (by omega) _).far (by omega) _).c0, ((HQ.far (by omega) _).far (by omega) _).c1⟩)
    (first | (go_at_call 80; (with_reducible refine (CM.out _ HB.dr).mono ?_); rintro e w2 ⟨mA, mc, rfl, rm, hbk⟩; (with_reducible (replace HB := HB.dr.up hbk; replace HP := HP.dr.up hbk; replace HQ := HQ.dr.up hbk; replace HR := HR.dr.up hbk))) | (go_at_call 24; (with_reducible refine (CZ.out _ _ _ rm).mono ?_); rintro e w3 ⟨rfl, rn, hbk⟩; (with_reducible (replace HB := HB.up hbk; replace HP := HP.up hbk; replace HQ := HQ.up hbk; replace HR := HR.up hbk)); have hr_0 := HR.c0; have hr_1 := HR.c1; have hr_l := HR.lt; have hr_f0 := HR.f0; have hr_f1 := HR.f1) | fail)
  go_wp2_with fail
  refine bodyPost_ret (v := .agg #[.bool s, .slice mA (dq v.natAbs) mc]) (by simp [results, Tryz.results36, go_sem, hr_0, hr_1]) rfl ?_
  exact rz_two HR rn HS HB (by omega)
set_option maxHeartbeats 2000000 in
theorem rzadd_lt_false_true (h : Rz W false A c z) (h' : Rz W true A' c' z') (hl : dq z.natAbs ≤ 99999) (hl' : dq z'.natAbs ≤ 99999) (hs : s = decide (v < 0)) (hv : v = z + z') (hc : ¬ z'.natAbs ≤ z.natAbs) : Calls Tryz.prog 36 #[.agg #[.bool false, .slice A (dq z.natAbs) c], .agg #[.bool true, .slice A' (dq z'.natAbs) c']] W (RZv W s v) := by
  have h1 := h.zi
  have h2 := h'.zi
  simp only [zi_true, zi_false] at h1 h2
  have ha : v.natAbs = z'.natAbs - z.natAbs := by omega
  have hzi : v = zi true v.natAbs := by simp only [zi_true, zi_false]; omega
  obtain ⟨u, hu, hu0⟩ : ∃ u, cmpI z.natAbs z'.natAbs = u ∧ ¬ 0 ≤ u := ⟨_, rfl, by
    rcases Nat.lt_trichotomy z.natAbs z'.natAbs with h1 | h1 | h1
    · first | (rw [cmpI_lt h1]; decide) | (exfalso; omega)
    · first | (rw [cmpI_eq h1]; decide) | (exfalso; omega)
    · first | (rw [cmpI_gt h1]; decide) | (exfalso; omega)⟩
  have CC : Hid (∀ W', Bel W W' → Calls Tryz.prog 77 #[.slice A (dq z.natAbs) c, .slice A' (dq z'.natAbs) c'] W' (IntPost W' u)) := fun W' hb => rcmp_z (h.1.up hb) (h'.1.up hb) (by omega) (by omega) hu
  have CM : Hid (∀ W', Bel W W' → Calls Tryz.prog 80 #[.slice A' (dq z'.natAbs) c', .slice A (dq z.natAbs) c] W' (RefRz W' v.natAbs)) := fun W' hb => by rw [ha]; exact rSub_any (h'.1.up hb) (h.1.up hb) (by omega) (by omega)
  have CZ : Hid (∀ W' B e, Rn W' B e v.natAbs → Calls Tryz.prog 24 #[.bool true, .slice B (dq v.natAbs) e] W' (RZb W' s B (dq v.natAbs) e v.natAbs)) := fun W' B e hn => rzof_h hn (by rw [hs, sig_of hzi])
  have HS := hide hs
  clear h h' hl hl' hs hv ha hzi h1 h2 hc hu
  have HB := Bel.refl W
  go_enter Tryz.func36, Tryz.ntmps36
  go_wp2_with (first | (go_at_call 77; (with_reducible refine (CC.out _ (((HB.al _).al _).al _)).mono ?_); rintro e w1 ⟨rfl, hbk⟩; (with_reducible (have HP : At w1 W.heap.size [.bool false, .slice A (dq z.natAbs) c] := At.up (((at_new0 _ _ _).al _).al _) hbk; have HQ : At w1 (W.heap.size + 1) [.bool true, .slice A' (dq z'.natAbs) c'] := At.up ((at_new1 _ _ _ _).al _) hbk; have HR : At w1 (W.heap.size + 1 + 1) [.bool false, .slice none 0 0] := At.up (at_new2 _ _ _ _ _) hbk; replace HB := (((HB.al _).al _).al _).up hbk))) | fail)
  go_region_held3 (fun w' => w'.cell? ⟨W.heap.size, 0, none⟩ = some (.bool false) ∧ w'.cell? ⟨W.heap.size, 1, none⟩ = some (.slice A (dq z.natAbs) c) ∧ w'.cell? ⟨W.heap.size + 1, 0, none⟩ = some (.bool true) ∧ w'.cell? ⟨W.heap.size + 1, 1, none⟩ = some (.slice A' (dq z'.natAbs) c'))
    (first | with_reducible exact ⟨HP.dr.c0, HP.dr.c1, HQ.dr.c0, HQ.dr.c1⟩ | with_reducible exact ⟨HP.c0, HP.c1, HQ.c0, HQ.c1⟩ | exact ⟨((HP.far (by omega) _).far (by omega) _).c0, ((HP.far (by omega) _).far (by omega) _).c1, ((HQ.far (by omega) _).far (by omega) _).c0, ((HQ.far (by omega) _).far (by omega) _).c1⟩)
    (first | (go_at_call 80; (with_reducible refine (CM.out _ HB.dr).mono ?_); rintro e w2 ⟨mA, mc, rfl, rm, hbk⟩; (with_reducible (replace HB := HB.dr.up hbk; replace HP := HP.dr.up hbk; replace HQ := HQ.dr.up hbk; replace HR := HR.dr.up hbk))) | (go_at_call 24; (with_reducible refine (CZ.out _ _ _ rm).mono ?_); rintro e w3 ⟨rfl, rn, hbk⟩; (with_reducible (replace HB := HB.up hbk; replace HP := HP.up hbk; replace HQ := HQ.up hbk; replace HR := HR.up hbk)); have hr_0 := HR.c0; have hr_1 := HR.c1; have hr_l := HR.lt; have hr_f0 := HR.f0; have hr_f1 := HR.f1) | fail)
  go_wp2_with fail
  refine bodyPost_ret (v := .agg #[.bool s, .slice mA (dq v.natAbs) mc]) (by simp [results, Tryz.results36, go_sem, hr_0, hr_1]) rfl ?_
  exact rz_two HR rn HS HB (by omega)
theorem rzadd_h (h : Rz W b A c z) (h' : Rz W b' A' c' z') (hl : dq z.natAbs ≤ 99999) (hl' : dq z'.natAbs ≤ 99999) (hs : s = decide (v < 0)) (hv : v = z + z') : Calls Tryz.prog 36 #[.agg #[.bool b, .slice A (dq z.natAbs) c], .agg #[.bool b', .slice A' (dq z'.natAbs) c']] W (RZv W s v) := by
  by_cases hc : z'.natAbs ≤ z.natAbs
  · cases b <;> cases b'
    · exact rzadd_same_false_false h h' hl hl' hs hv
    · exact rzadd_ge_false_true h h' hl hl' hs hv hc
    · exact rzadd_ge_true_false h h' hl hl' hs hv hc
    · exact rzadd_same_true_true h h' hl hl' hs hv
  · cases b <;> cases b'
    · exact rzadd_same_false_false h h' hl hl' hs hv
    · exact rzadd_lt_false_true h h' hl hl' hs hv hc
    · exact rzadd_lt_true_false h h' hl hl' hs hv hc
    · exact rzadd_same_true_true h h' hl hl' hs hv
end
end Go.Proofs.YtmiklffjffdkgaaGreatDoor
end

section
/- The document's own integers: ZDiv. Conditions: less than 99999 fours of digits. -/
open Go.RowKit
set_option maxRecDepth 100000
namespace Go.Proofs.YtmiklffjffdkgaaGreatDoor
def RzDv (w : World) (q r : Nat) (e : Ending) (w' : World) : Prop := ∃ A c A' c', e = .returned (.tuple #[.slice A (dq q) c, .slice A' (dq r) c']) ∧ Rn w' A c q ∧ Rn w' A' c' r ∧ Hid (Below w.heap.size w w')
def RzD (W : World) (s : Bool) (q r : Nat) (e : Ending) (w' : World) : Prop := ∃ A c A' c', e = .returned (.tuple #[.agg #[.bool s, .slice A (dq q) c], .agg #[.bool false, .slice A' (dq r) c']]) ∧ Rn w' A c q ∧ Rn w' A' c' r ∧ Hid (Below W.heap.size W w')
section
variable {W : World} {b b' : Bool} {A A' : Option Addr} {c c' m n : Nat}
set_option maxHeartbeats 4000000 in
theorem rzdiv_false_false (h : Rn W A c m) (h' : Rn W A' c' n) (hn : 0 < n) (hl : dq m ≤ 99999) (hl' : dq n ≤ 99999) {q r : Nat} (hq : q = m / n) (hr : r = m % n) {s : Bool} (hs : s = (false && decide (0 < q))) :
    Calls Tryz.prog 78 #[.agg #[.bool false, .slice A (dq m) c], .agg #[.bool false, .slice A' (dq n) c']] W (RzD W s q r) := by
  have CD : Hid (∀ W', Bel W W' → Calls Tryz.prog 42 #[.slice A (dq m) c, .slice A' (dq n) c'] W' (RzDv W' q r)) := fun W' hw => by rw [hq, hr]; exact rDiv_any (h.up hw.hid) (h'.up hw.hid) hl hl' hn
  have CZ : Hid (∀ W' B e, Rn W' B e q → Calls Tryz.prog 24 #[.bool false, .slice B (dq q) e] W' (RZb W' s B (dq q) e q)) := fun W' B e hn => rzof_h hn hs
  clear h h' hn hl hl' hq hr hs
  have HB := Bel.refl W
  go_enter Tryz.func78, Tryz.ntmps78
  go_wp2_with (first | (go_at_call 42; (with_reducible refine (CD.out _ ((((HB.al _).al _).al _).al _)).mono ?_); rintro e w1 ⟨B, e1, C, f1, rfl, rq, rr, hbk⟩; have HP : At w1 W.heap.size [.bool false, .slice A (dq m) c] := At.up ((((at_new0 _ _ _).al _).al _).al _) hbk; have HQ : At w1 (W.heap.size + 1) [.bool false, .slice A' (dq n) c'] := At.up (((at_new1 _ _ _ _).al _).al _) hbk; have HR : At w1 (W.heap.size + 1 + 1) [.bool false, .slice none 0 0] := At.up ((at_new2 _ _ _ _ _).al _) hbk; have HS : At w1 (W.heap.size + 1 + 1 + 1) [.bool false, .slice none 0 0] := At.up (at_size (at_new0 _ _ _) (by simp)) hbk; replace HB := ((((HB.al _).al _).al _).al _).up hbk; have hp_0 := HP.c0; have hp_1 := HP.c1; have hp_l := HP.lt; have hq_0 := HQ.c0; have hq_1 := HQ.c1; have hq_l := HQ.lt) | (go_at_call 24; (with_reducible refine (CZ.out _ _ _ rq).mono ?_); rintro e w2 ⟨rfl, rq2, hbk2⟩; replace HB := HB.up hbk2; replace HR := HR.up hbk2; replace HS := HS.up hbk2; replace rr := rr.up hbk2; clear hp_0 hp_1 hp_l hq_0 hq_1 hq_l HP HQ; have hr_0 := HR.c0; have hr_1 := HR.c1; have hr_l := HR.lt; have hr_f0 := HR.f0; have hr_f1 := HR.f1; have hs_0 := HS.c0; have hs_1 := HS.c1; have hs_l := HS.lt; have hs_f0 := HS.f0; have hs_f1 := HS.f1) | fail)
  refine bodyPost_ret (v := .tuple #[.agg #[.bool s, .slice B (dq q) e1], .agg #[.bool false, .slice C (dq r) f1]]) (by simp [results, Tryz.results78, go_sem, hr_0, hr_1, hs_0, hs_1]) rfl ?_
  have l2 : W.heap.size ≤ W.heap.size + 1 + 1 := by omega
  have l3 : W.heap.size ≤ W.heap.size + 1 + 1 + 1 := by omega
  have HS2 := (HS.far (q := W.heap.size + 1 + 1) (i := 0) (by omega) (.bool s)).far (q := W.heap.size + 1 + 1) (i := 1) (by omega) (.slice B (dq q) e1)
  exact ⟨B, e1, C, f1, rfl, (rq2.put2 HR).put2 HS2, (rr.put2 HR).put2 HS2, ((((Below.setCell HB l2 _).setCell l2 _).setCell l3 _).setCell l3 _)⟩
set_option maxHeartbeats 4000000 in
theorem rzdiv_false_true (h : Rn W A c m) (h' : Rn W A' c' n) (hn : 0 < n) (hl : dq m ≤ 99999) (hl' : dq n ≤ 99999) {q r : Nat} (hq : q = m / n) (hr : r = m % n) {s : Bool} (hs : s = (true && decide (0 < q))) :
    Calls Tryz.prog 78 #[.agg #[.bool false, .slice A (dq m) c], .agg #[.bool true, .slice A' (dq n) c']] W (RzD W s q r) := by
  have CD : Hid (∀ W', Bel W W' → Calls Tryz.prog 42 #[.slice A (dq m) c, .slice A' (dq n) c'] W' (RzDv W' q r)) := fun W' hw => by rw [hq, hr]; exact rDiv_any (h.up hw.hid) (h'.up hw.hid) hl hl' hn
  have CZ : Hid (∀ W' B e, Rn W' B e q → Calls Tryz.prog 24 #[.bool true, .slice B (dq q) e] W' (RZb W' s B (dq q) e q)) := fun W' B e hn => rzof_h hn hs
  clear h h' hn hl hl' hq hr hs
  have HB := Bel.refl W
  go_enter Tryz.func78, Tryz.ntmps78
  go_wp2_with (first | (go_at_call 42; (with_reducible refine (CD.out _ ((((HB.al _).al _).al _).al _)).mono ?_); rintro e w1 ⟨B, e1, C, f1, rfl, rq, rr, hbk⟩; have HP : At w1 W.heap.size [.bool false, .slice A (dq m) c] := At.up ((((at_new0 _ _ _).al _).al _).al _) hbk; have HQ : At w1 (W.heap.size + 1) [.bool true, .slice A' (dq n) c'] := At.up (((at_new1 _ _ _ _).al _).al _) hbk; have HR : At w1 (W.heap.size + 1 + 1) [.bool false, .slice none 0 0] := At.up ((at_new2 _ _ _ _ _).al _) hbk; have HS : At w1 (W.heap.size + 1 + 1 + 1) [.bool false, .slice none 0 0] := At.up (at_size (at_new0 _ _ _) (by simp)) hbk; replace HB := ((((HB.al _).al _).al _).al _).up hbk; have hp_0 := HP.c0; have hp_1 := HP.c1; have hp_l := HP.lt; have hq_0 := HQ.c0; have hq_1 := HQ.c1; have hq_l := HQ.lt) | (go_at_call 24; (with_reducible refine (CZ.out _ _ _ rq).mono ?_); rintro e w2 ⟨rfl, rq2, hbk2⟩; replace HB := HB.up hbk2; replace HR := HR.up hbk2; replace HS := HS.up hbk2; replace rr := rr.up hbk2; clear hp_0 hp_1 hp_l hq_0 hq_1 hq_l HP HQ; have hr_0 := HR.c0; have hr_1 := HR.c1; have hr_l := HR.lt; have hr_f0 := HR.f0; have hr_f1 := HR.f1; have hs_0 := HS.c0; have hs_1 := HS.c1; have hs_l := HS.lt; have hs_f0 := HS.f0; have hs_f1 := HS.f1) | fail)
  refine bodyPost_ret (v := .tuple #[.agg #[.bool s, .slice B (dq q) e1], .agg #[.bool false, .slice C (dq r) f1]]) (by simp [results, Tryz.results78, go_sem, hr_0, hr_1, hs_0, hs_1]) rfl ?_
  have l2 : W.heap.size ≤ W.heap.size + 1 + 1 := by omega
  have l3 : W.heap.size ≤ W.heap.size + 1 + 1 + 1 := by omega
  have HS2 := (HS.far (q := W.heap.size + 1 + 1) (i := 0) (by omega) (.bool s)).far (q := W.heap.size + 1 + 1) (i := 1) (by omega) (.slice B (dq q) e1)
  exact ⟨B, e1, C, f1, rfl, (rq2.put2 HR).put2 HS2, (rr.put2 HR).put2 HS2, ((((Below.setCell HB l2 _).setCell l2 _).setCell l3 _).setCell l3 _)⟩
set_option maxHeartbeats 4000000 in
theorem rzdiv_true_false (h : Rn W A c m) (h' : Rn W A' c' n) (hn : 0 < n) (hl : dq m ≤ 99999) (hl' : dq n ≤ 99999) {q r : Nat} (hq : q = m / n) (hr : r = m % n) (hc : r = 0) {s : Bool} (hs : s = (true && decide (0 < q))) :
    Calls Tryz.prog 78 #[.agg #[.bool true, .slice A (dq m) c], .agg #[.bool false, .slice A' (dq n) c']] W (RzD W s q r) := by
  have CD : Hid (∀ W', Bel W W' → Calls Tryz.prog 42 #[.slice A (dq m) c, .slice A' (dq n) c'] W' (RzDv W' q r)) := fun W' hw => by rw [hq, hr]; exact rDiv_any (h.up hw.hid) (h'.up hw.hid) hl hl' hn
  have CZ : Hid (∀ W' B e, Rn W' B e q → Calls Tryz.prog 24 #[.bool true, .slice B (dq q) e] W' (RZb W' s B (dq q) e q)) := fun W' B e hn => rzof_h hn hs
  have g0 : dq r = 0 := by have := dq_pos (n := r); omega
  have g1 : decide ((0 : Int) < (dq r : Int)) = false := decide_eq_false (by omega)
  have g2 : ¬ (0 : Int) < (dq r : Int) := by omega
  have g3 : ¬ 0 < dq r := by omega
  clear g0
  clear h h' hn hl hl' hq hr hc hs
  have HB := Bel.refl W
  go_enter Tryz.func78, Tryz.ntmps78
  go_wp2_with (first | (go_at_call 42; (with_reducible refine (CD.out _ ((((HB.al _).al _).al _).al _)).mono ?_); rintro e w1 ⟨B, e1, C, f1, rfl, rq, rr, hbk⟩; have HP : At w1 W.heap.size [.bool true, .slice A (dq m) c] := At.up ((((at_new0 _ _ _).al _).al _).al _) hbk; have HQ : At w1 (W.heap.size + 1) [.bool false, .slice A' (dq n) c'] := At.up (((at_new1 _ _ _ _).al _).al _) hbk; have HR : At w1 (W.heap.size + 1 + 1) [.bool false, .slice none 0 0] := At.up ((at_new2 _ _ _ _ _).al _) hbk; have HS : At w1 (W.heap.size + 1 + 1 + 1) [.bool false, .slice none 0 0] := At.up (at_size (at_new0 _ _ _) (by simp)) hbk; replace HB := ((((HB.al _).al _).al _).al _).up hbk; have hp_0 := HP.c0; have hp_1 := HP.c1; have hp_l := HP.lt; have hq_0 := HQ.c0; have hq_1 := HQ.c1; have hq_l := HQ.lt) | (go_at_call 24; (with_reducible refine (CZ.out _ _ _ rq).mono ?_); rintro e w2 ⟨rfl, rq2, hbk2⟩; replace HB := HB.up hbk2; replace HR := HR.up hbk2; replace HS := HS.up hbk2; replace rr := rr.up hbk2; clear hp_0 hp_1 hp_l hq_0 hq_1 hq_l HP HQ; have hr_0 := HR.c0; have hr_1 := HR.c1; have hr_l := HR.lt; have hr_f0 := HR.f0; have hr_f1 := HR.f1; have hs_0 := HS.c0; have hs_1 := HS.c1; have hs_l := HS.lt; have hs_f0 := HS.f0; have hs_f1 := HS.f1) | fail)
  refine bodyPost_ret (v := .tuple #[.agg #[.bool s, .slice B (dq q) e1], .agg #[.bool false, .slice C (dq r) f1]]) (by simp [results, Tryz.results78, go_sem, hr_0, hr_1, hs_0, hs_1]) rfl ?_
  have l2 : W.heap.size ≤ W.heap.size + 1 + 1 := by omega
  have l3 : W.heap.size ≤ W.heap.size + 1 + 1 + 1 := by omega
  have HS2 := (HS.far (q := W.heap.size + 1 + 1) (i := 0) (by omega) (.bool s)).far (q := W.heap.size + 1 + 1) (i := 1) (by omega) (.slice B (dq q) e1)
  exact ⟨B, e1, C, f1, rfl, (rq2.put2 HR).put2 HS2, (rr.put2 HR).put2 HS2, ((((Below.setCell HB l2 _).setCell l2 _).setCell l3 _).setCell l3 _)⟩
set_option maxHeartbeats 4000000 in
theorem rzdiv_true_true (h : Rn W A c m) (h' : Rn W A' c' n) (hn : 0 < n) (hl : dq m ≤ 99999) (hl' : dq n ≤ 99999) {q r : Nat} (hq : q = m / n) (hr : r = m % n) (hc : r = 0) {s : Bool} (hs : s = (false && decide (0 < q))) :
    Calls Tryz.prog 78 #[.agg #[.bool true, .slice A (dq m) c], .agg #[.bool true, .slice A' (dq n) c']] W (RzD W s q r) := by
  have CD : Hid (∀ W', Bel W W' → Calls Tryz.prog 42 #[.slice A (dq m) c, .slice A' (dq n) c'] W' (RzDv W' q r)) := fun W' hw => by rw [hq, hr]; exact rDiv_any (h.up hw.hid) (h'.up hw.hid) hl hl' hn
  have CZ : Hid (∀ W' B e, Rn W' B e q → Calls Tryz.prog 24 #[.bool false, .slice B (dq q) e] W' (RZb W' s B (dq q) e q)) := fun W' B e hn => rzof_h hn hs
  have g0 : dq r = 0 := by have := dq_pos (n := r); omega
  have g1 : decide ((0 : Int) < (dq r : Int)) = false := decide_eq_false (by omega)
  have g2 : ¬ (0 : Int) < (dq r : Int) := by omega
  have g3 : ¬ 0 < dq r := by omega
  clear g0
  clear h h' hn hl hl' hq hr hc hs
  have HB := Bel.refl W
  go_enter Tryz.func78, Tryz.ntmps78
  go_wp2_with (first | (go_at_call 42; (with_reducible refine (CD.out _ ((((HB.al _).al _).al _).al _)).mono ?_); rintro e w1 ⟨B, e1, C, f1, rfl, rq, rr, hbk⟩; have HP : At w1 W.heap.size [.bool true, .slice A (dq m) c] := At.up ((((at_new0 _ _ _).al _).al _).al _) hbk; have HQ : At w1 (W.heap.size + 1) [.bool true, .slice A' (dq n) c'] := At.up (((at_new1 _ _ _ _).al _).al _) hbk; have HR : At w1 (W.heap.size + 1 + 1) [.bool false, .slice none 0 0] := At.up ((at_new2 _ _ _ _ _).al _) hbk; have HS : At w1 (W.heap.size + 1 + 1 + 1) [.bool false, .slice none 0 0] := At.up (at_size (at_new0 _ _ _) (by simp)) hbk; replace HB := ((((HB.al _).al _).al _).al _).up hbk; have hp_0 := HP.c0; have hp_1 := HP.c1; have hp_l := HP.lt; have hq_0 := HQ.c0; have hq_1 := HQ.c1; have hq_l := HQ.lt) | (go_at_call 24; (with_reducible refine (CZ.out _ _ _ rq).mono ?_); rintro e w2 ⟨rfl, rq2, hbk2⟩; replace HB := HB.up hbk2; replace HR := HR.up hbk2; replace HS := HS.up hbk2; replace rr := rr.up hbk2; clear hp_0 hp_1 hp_l hq_0 hq_1 hq_l HP HQ; have hr_0 := HR.c0; have hr_1 := HR.c1; have hr_l := HR.lt; have hr_f0 := HR.f0; have hr_f1 := HR.f1; have hs_0 := HS.c0; have hs_1 := HS.c1; have hs_l := HS.lt; have hs_f0 := HS.f0; have hs_f1 := HS.f1) | fail)
  refine bodyPost_ret (v := .tuple #[.agg #[.bool s, .slice B (dq q) e1], .agg #[.bool false, .slice C (dq r) f1]]) (by simp [results, Tryz.results78, go_sem, hr_0, hr_1, hs_0, hs_1]) rfl ?_
  have l2 : W.heap.size ≤ W.heap.size + 1 + 1 := by omega
  have l3 : W.heap.size ≤ W.heap.size + 1 + 1 + 1 := by omega
  have HS2 := (HS.far (q := W.heap.size + 1 + 1) (i := 0) (by omega) (.bool s)).far (q := W.heap.size + 1 + 1) (i := 1) (by omega) (.slice B (dq q) e1)
  exact ⟨B, e1, C, f1, rfl, (rq2.put2 HR).put2 HS2, (rr.put2 HR).put2 HS2, ((((Below.setCell HB l2 _).setCell l2 _).setCell l3 _).setCell l3 _)⟩
set_option maxHeartbeats 8000000 in
theorem rzdiv_rest_false (h : Rn W A c m) (h' : Rn W A' c' n) (hn : 0 < n) (hl : dq m ≤ 99999) (hl' : dq n ≤ 99999) {q r Q R : Nat} (hq : q = m / n) (hr : r = m % n) (hc : 0 < r) (hQ : Q = q + 1) (hR : R = n - r) {s : Bool} (hs : s = (true && decide (0 < Q))) :
    Calls Tryz.prog 78 #[.agg #[.bool true, .slice A (dq m) c], .agg #[.bool false, .slice A' (dq n) c']] W (RzD W s Q R) := by
  obtain ⟨one, hone⟩ : ∃ x : Nat, x = 1 := ⟨_, rfl⟩
  have dq1 : dq q ≤ 100000 := Nat.le_trans (dq_mono (show q ≤ m by rw [hq]; exact Nat.div_le_self m n)) (by omega)
  have lrn : r ≤ n := by rw [hr]; exact Nat.le_of_lt (Nat.mod_lt _ hn)
  have CD : Hid (∀ W', Bel W W' → Calls Tryz.prog 42 #[.slice A (dq m) c, .slice A' (dq n) c'] W' (RzDv W' q r)) := fun W' hw => by rw [hq, hr]; exact rDiv_any (h.up hw.hid) (h'.up hw.hid) hl hl' hn
  have CS : Hid (∀ W', Calls Tryz.prog 41 #[.int .u64 1] W' (RefRz W' one)) := fun W' => by rw [hone]; exact Small_any (n := 1) (by decide)
  have CA : Hid (∀ W' B e C f, Rn W' B e q → Rn W' C f one → Calls Tryz.prog 53 #[.slice B (dq q) e, .slice C (dq one) f] W' (RefRz W' Q)) := fun W' B e C f h1 h2 => by rw [hQ, ← hone]; exact rAdd_any h1 h2 dq1 (by rw [hone]; exact Nat.le_trans (dq_u64 (by decide)) (by decide))
  have CB : Hid (∀ W' C f, Bel W W' → Rn W' C f r → Calls Tryz.prog 80 #[.slice A' (dq n) c', .slice C (dq r) f] W' (RefRz W' R)) := fun W' C f hw h1 => by rw [hR]; exact rSub_any (h'.up hw.hid) h1 (by omega) lrn
  have CZ : Hid (∀ W' B e, Rn W' B e Q → Calls Tryz.prog 24 #[.bool true, .slice B (dq Q) e] W' (RZb W' s B (dq Q) e Q)) := fun W' B e hn => rzof_h hn hs
  have g0 : 0 < dq r := dq_pos.2 hc
  have g1 : decide ((0 : Int) < (dq r : Int)) = true := decide_eq_true (by omega)
  have g2 : (0 : Int) < (dq r : Int) := by omega
  clear h h' hn hl hl' hq hr hc hs hQ hR hone dq1 lrn
  have HB := Bel.refl W
  go_enter Tryz.func78, Tryz.ntmps78
  go_wp2_with (first | (go_at_call 42; (with_reducible refine (CD.out _ ((((HB.al _).al _).al _).al _)).mono ?_); rintro e w1 ⟨B, e1, C, f1, rfl, rq, rr, hbk⟩; have HP : At w1 W.heap.size [.bool true, .slice A (dq m) c] := At.up ((((at_new0 _ _ _).al _).al _).al _) hbk; have HQ : At w1 (W.heap.size + 1) [.bool false, .slice A' (dq n) c'] := At.up (((at_new1 _ _ _ _).al _).al _) hbk; have HR : At w1 (W.heap.size + 1 + 1) [.bool false, .slice none 0 0] := At.up ((at_new2 _ _ _ _ _).al _) hbk; have HS : At w1 (W.heap.size + 1 + 1 + 1) [.bool false, .slice none 0 0] := At.up (at_size (at_new0 _ _ _) (by simp)) hbk; replace HB := ((((HB.al _).al _).al _).al _).up hbk; have hp_0 := HP.c0; have hp_1 := HP.c1; have hp_l := HP.lt; have hq_0 := HQ.c0; have hq_1 := HQ.c1; have hq_l := HQ.lt) | fail)
  go_region_held3 (fun w' => w'.cell? ⟨W.heap.size + 1, 1, none⟩ = some (.slice A' (dq n) c'))
    (first | with_reducible exact HQ.dr.c1 | with_reducible exact HQ.c1)
    (first | (go_at_call 41; (with_reducible refine (CS.out _).mono ?_); rintro e w2 ⟨D, d1, rfl, ro, hbk⟩; (with_reducible (replace HB := HB.dr.up hbk; replace HP := HP.dr.up hbk; replace HQ := HQ.dr.up hbk; replace HR := HR.dr.up hbk; replace HS := HS.dr.up hbk; replace rq := rq.dr.up hbk; replace rr := rr.dr.up hbk)); clear hp_0 hp_1 hp_l hq_0 hq_1 hq_l; have hp_0 := HP.c0; have hp_1 := HP.c1; have hp_l := HP.lt; have hq_0 := HQ.c0; have hq_1 := HQ.c1; have hq_l := HQ.lt) | (go_at_call 53; (with_reducible refine (CA.out _ _ _ _ _ rq ro).mono ?_); rintro e w3 ⟨D2, d2, rfl, rQ, hbk⟩; (with_reducible (replace HB := HB.up hbk; replace HP := HP.up hbk; replace HQ := HQ.up hbk; replace HR := HR.up hbk; replace HS := HS.up hbk; replace rq := rq.up hbk; replace rr := rr.up hbk)); clear hp_0 hp_1 hp_l hq_0 hq_1 hq_l; have hp_0 := HP.c0; have hp_1 := HP.c1; have hp_l := HP.lt; have hq_0 := HQ.c0; have hq_1 := HQ.c1; have hq_l := HQ.lt) | (go_at_call 80; (with_reducible refine (CB.out _ _ _ HB rr).mono ?_); rintro e w4 ⟨D3, d3, rfl, rR, hbk⟩; (with_reducible (replace HB := HB.up hbk; replace HP := HP.up hbk; replace HQ := HQ.up hbk; replace HR := HR.up hbk; replace HS := HS.up hbk; replace rq := rq.up hbk; replace rr := rr.up hbk; replace rQ := rQ.up hbk)); clear hp_0 hp_1 hp_l hq_0 hq_1 hq_l; have hp_0 := HP.c0; have hp_1 := HP.c1; have hp_l := HP.lt; have hq_0 := HQ.c0; have hq_1 := HQ.c1; have hq_l := HQ.lt) | fail)
  go_wp2_with (first | (go_at_call 24; (with_reducible refine (CZ.out _ _ _ rQ).mono ?_); rintro e w5 ⟨rfl, rq2, hbk2⟩; replace HB := HB.up hbk2; replace HR := HR.up hbk2; replace HS := HS.up hbk2; replace rR := rR.up hbk2; clear hp_0 hp_1 hp_l hq_0 hq_1 hq_l HP HQ; have hr_0 := HR.c0; have hr_1 := HR.c1; have hr_l := HR.lt; have hr_f0 := HR.f0; have hr_f1 := HR.f1; have hs_0 := HS.c0; have hs_1 := HS.c1; have hs_l := HS.lt; have hs_f0 := HS.f0; have hs_f1 := HS.f1) | fail)
  refine bodyPost_ret (v := .tuple #[.agg #[.bool s, .slice D2 (dq Q) d2], .agg #[.bool false, .slice D3 (dq R) d3]]) (by simp [results, Tryz.results78, go_sem, hr_0, hr_1, hs_0, hs_1]) rfl ?_
  have l2 : W.heap.size ≤ W.heap.size + 1 + 1 := by omega
  have l3 : W.heap.size ≤ W.heap.size + 1 + 1 + 1 := by omega
  have HS2 := (HS.far (q := W.heap.size + 1 + 1) (i := 0) (by omega) (.bool s)).far (q := W.heap.size + 1 + 1) (i := 1) (by omega) (.slice D2 (dq Q) d2)
  exact ⟨D2, d2, D3, d3, rfl, (rq2.put2 HR).put2 HS2, (rR.put2 HR).put2 HS2, ((((Below.setCell HB l2 _).setCell l2 _).setCell l3 _).setCell l3 _)⟩
set_option maxHeartbeats 8000000 in
theorem rzdiv_rest_true (h : Rn W A c m) (h' : Rn W A' c' n) (hn : 0 < n) (hl : dq m ≤ 99999) (hl' : dq n ≤ 99999) {q r Q R : Nat} (hq : q = m / n) (hr : r = m % n) (hc : 0 < r) (hQ : Q = q + 1) (hR : R = n - r) {s : Bool} (hs : s = (false && decide (0 < Q))) :
    Calls Tryz.prog 78 #[.agg #[.bool true, .slice A (dq m) c], .agg #[.bool true, .slice A' (dq n) c']] W (RzD W s Q R) := by
  obtain ⟨one, hone⟩ : ∃ x : Nat, x = 1 := ⟨_, rfl⟩
  have dq1 : dq q ≤ 100000 := Nat.le_trans (dq_mono (show q ≤ m by rw [hq]; exact Nat.div_le_self m n)) (by omega)
  have lrn : r ≤ n := by rw [hr]; exact Nat.le_of_lt (Nat.mod_lt _ hn)
  have CD : Hid (∀ W', Bel W W' → Calls Tryz.prog 42 #[.slice A (dq m) c, .slice A' (dq n) c'] W' (RzDv W' q r)) := fun W' hw => by rw [hq, hr]; exact rDiv_any (h.up hw.hid) (h'.up hw.hid) hl hl' hn
  have CS : Hid (∀ W', Calls Tryz.prog 41 #[.int .u64 1] W' (RefRz W' one)) := fun W' => by rw [hone]; exact Small_any (n := 1) (by decide)
  have CA : Hid (∀ W' B e C f, Rn W' B e q → Rn W' C f one → Calls Tryz.prog 53 #[.slice B (dq q) e, .slice C (dq one) f] W' (RefRz W' Q)) := fun W' B e C f h1 h2 => by rw [hQ, ← hone]; exact rAdd_any h1 h2 dq1 (by rw [hone]; exact Nat.le_trans (dq_u64 (by decide)) (by decide))
  have CB : Hid (∀ W' C f, Bel W W' → Rn W' C f r → Calls Tryz.prog 80 #[.slice A' (dq n) c', .slice C (dq r) f] W' (RefRz W' R)) := fun W' C f hw h1 => by rw [hR]; exact rSub_any (h'.up hw.hid) h1 (by omega) lrn
  have CZ : Hid (∀ W' B e, Rn W' B e Q → Calls Tryz.prog 24 #[.bool false, .slice B (dq Q) e] W' (RZb W' s B (dq Q) e Q)) := fun W' B e hn => rzof_h hn hs
  have g0 : 0 < dq r := dq_pos.2 hc
  have g1 : decide ((0 : Int) < (dq r : Int)) = true := decide_eq_true (by omega)
  have g2 : (0 : Int) < (dq r : Int) := by omega
  clear h h' hn hl hl' hq hr hc hs hQ hR hone dq1 lrn
  have HB := Bel.refl W
  go_enter Tryz.func78, Tryz.ntmps78
  go_wp2_with (first | (go_at_call 42; (with_reducible refine (CD.out _ ((((HB.al _).al _).al _).al _)).mono ?_); rintro e w1 ⟨B, e1, C, f1, rfl, rq, rr, hbk⟩; have HP : At w1 W.heap.size [.bool true, .slice A (dq m) c] := At.up ((((at_new0 _ _ _).al _).al _).al _) hbk; have HQ : At w1 (W.heap.size + 1) [.bool true, .slice A' (dq n) c'] := At.up (((at_new1 _ _ _ _).al _).al _) hbk; have HR : At w1 (W.heap.size + 1 + 1) [.bool false, .slice none 0 0] := At.up ((at_new2 _ _ _ _ _).al _) hbk; have HS : At w1 (W.heap.size + 1 + 1 + 1) [.bool false, .slice none 0 0] := At.up (at_size (at_new0 _ _ _) (by simp)) hbk; replace HB := ((((HB.al _).al _).al _).al _).up hbk; have hp_0 := HP.c0; have hp_1 := HP.c1; have hp_l := HP.lt; have hq_0 := HQ.c0; have hq_1 := HQ.c1; have hq_l := HQ.lt) | fail)
  go_region_held3 (fun w' => w'.cell? ⟨W.heap.size + 1, 1, none⟩ = some (.slice A' (dq n) c'))
    (first | with_reducible exact HQ.dr.c1 | with_reducible exact HQ.c1)
    (first | (go_at_call 41; (with_reducible refine (CS.out _).mono ?_); rintro e w2 ⟨D, d1, rfl, ro, hbk⟩; (with_reducible (replace HB := HB.dr.up hbk; replace HP := HP.dr.up hbk; replace HQ := HQ.dr.up hbk; replace HR := HR.dr.up hbk; replace HS := HS.dr.up hbk; replace rq := rq.dr.up hbk; replace rr := rr.dr.up hbk)); clear hp_0 hp_1 hp_l hq_0 hq_1 hq_l; have hp_0 := HP.c0; have hp_1 := HP.c1; have hp_l := HP.lt; have hq_0 := HQ.c0; have hq_1 := HQ.c1; have hq_l := HQ.lt) | (go_at_call 53; (with_reducible refine (CA.out _ _ _ _ _ rq ro).mono ?_); rintro e w3 ⟨D2, d2, rfl, rQ, hbk⟩; (with_reducible (replace HB := HB.up hbk; replace HP := HP.up hbk; replace HQ := HQ.up hbk; replace HR := HR.up hbk; replace HS := HS.up hbk; replace rq := rq.up hbk; replace rr := rr.up hbk)); clear hp_0 hp_1 hp_l hq_0 hq_1 hq_l; have hp_0 := HP.c0; have hp_1 := HP.c1; have hp_l := HP.lt; have hq_0 := HQ.c0; have hq_1 := HQ.c1; have hq_l := HQ.lt) | (go_at_call 80; (with_reducible refine (CB.out _ _ _ HB rr).mono ?_); rintro e w4 ⟨D3, d3, rfl, rR, hbk⟩; (with_reducible (replace HB := HB.up hbk; replace HP := HP.up hbk; replace HQ := HQ.up hbk; replace HR := HR.up hbk; replace HS := HS.up hbk; replace rq := rq.up hbk; replace rr := rr.up hbk; replace rQ := rQ.up hbk)); clear hp_0 hp_1 hp_l hq_0 hq_1 hq_l; have hp_0 := HP.c0; have hp_1 := HP.c1; have hp_l := HP.lt; have hq_0 := HQ.c0; have hq_1 := HQ.c1; have hq_l := HQ.lt) | fail)
  go_wp2_with (first | (go_at_call 24; (with_reducible refine (CZ.out _ _ _ rQ).mono ?_); rintro e w5 ⟨rfl, rq2, hbk2⟩; replace HB := HB.up hbk2; replace HR := HR.up hbk2; replace HS := HS.up hbk2; replace rR := rR.up hbk2; clear hp_0 hp_1 hp_l hq_0 hq_1 hq_l HP HQ; have hr_0 := HR.c0; have hr_1 := HR.c1; have hr_l := HR.lt; have hr_f0 := HR.f0; have hr_f1 := HR.f1; have hs_0 := HS.c0; have hs_1 := HS.c1; have hs_l := HS.lt; have hs_f0 := HS.f0; have hs_f1 := HS.f1) | fail)
  refine bodyPost_ret (v := .tuple #[.agg #[.bool s, .slice D2 (dq Q) d2], .agg #[.bool false, .slice D3 (dq R) d3]]) (by simp [results, Tryz.results78, go_sem, hr_0, hr_1, hs_0, hs_1]) rfl ?_
  have l2 : W.heap.size ≤ W.heap.size + 1 + 1 := by omega
  have l3 : W.heap.size ≤ W.heap.size + 1 + 1 + 1 := by omega
  have HS2 := (HS.far (q := W.heap.size + 1 + 1) (i := 0) (by omega) (.bool s)).far (q := W.heap.size + 1 + 1) (i := 1) (by omega) (.slice D2 (dq Q) d2)
  exact ⟨D2, d2, D3, d3, rfl, (rq2.put2 HR).put2 HS2, (rR.put2 HR).put2 HS2, ((((Below.setCell HB l2 _).setCell l2 _).setCell l3 _).setCell l3 _)⟩
end
end Go.Proofs.YtmiklffjffdkgaaGreatDoor
end

section
/- Plain mathematics of division with signs. No conditions on memory. -/
open Go.RowKit
namespace Go.Proofs.YtmiklffjffdkgaaGreatDoor
/-- Div whose quotient and rest are known. -/
def DivF (W : World) (q r : Nat) (e : Ending) (w' : World) : Prop :=
  ∃ A c A' c', e = .returned (.tuple #[.agg #[.slice A (dl q) c], .agg #[.slice A' (dl r) c'], .bool true]) ∧ Nm w' A (dl q) c q ∧ Nm w' A' (dl r) c' r ∧ Hid (Below W.heap.size W w')
theorem div_f {W : World} {A A' : Option Addr} {n n' c c' m m' q r : Nat} (h : Nm W A n c m) (h' : Nm W A' n' c' m') (h0 : 0 < m') (hd : dl m ≤ 99999) (hq : m / m' = q) (hr : m % m' = r) : Calls Tryz.prog 73 #[.agg #[.slice A n c], .agg #[.slice A' n' c']] W (DivF W q r) := by
  subst hq; subst hr
  exact div_h h h' h0 hd
theorem unique_pos {a q r : Int} {k : Nat} (hk : 0 < k) (h : r + (k : Int) * q = a) (h0 : 0 ≤ r) (h1 : r < k) : a / (k : Int) = q ∧ a % (k : Int) = r :=
  (Int.ediv_emod_unique (by omega)).2 ⟨h, h0, h1⟩
theorem zi_not (b : Bool) (m : Nat) : zi (!b) m = -zi b m := by cases b <;> simp [zi]
theorem div_sign {b b' : Bool} {m k q : Nat} {r : Int} (hk : 0 < k) (h : r + (k : Int) * zi b q = zi b m) (h0 : 0 ≤ r) (h1 : r < k) : zi b m / zi b' k = zi (b != b') q ∧ zi b m % zi b' k = r := by
  obtain ⟨e1, e2⟩ := unique_pos hk h h0 h1
  cases b'
  · rw [zi_false, show (b != false) = b by cases b <;> rfl]
    exact ⟨e1, e2⟩
  · rw [zi_true, Int.ediv_neg, Int.emod_neg, e1, e2, show (b != true) = !b by cases b <;> rfl, zi_not]
    exact ⟨rfl, rfl⟩
theorem div_plain {b b' : Bool} {m k : Nat} (hk : 0 < k) (h : b = false ∨ m % k = 0) : zi b m / zi b' k = zi (b != b') (m / k) ∧ zi b m % zi b' k = ((m % k : Nat) : Int) := by
  have e : m % k + k * (m / k) = m := Nat.mod_add_div m k
  have hlt := Nat.mod_lt m hk
  refine div_sign hk ?_ (by omega) (by omega)
  rcases h with h | h
  · subst h
    rw [zi_false, zi_false]
    have e2 := congrArg (fun x : Nat => (x : Int)) e
    simpa using e2
  · rw [h, Nat.zero_add] at e
    rw [h]
    cases b
    · rw [zi_false, zi_false]
      have e2 := congrArg (fun x : Nat => (x : Int)) e
      simpa using e2
    · rw [zi_true, zi_true]
      have e2 := congrArg (fun x : Nat => -(x : Int)) e
      simp only [Int.natCast_mul] at e2
      rw [Int.mul_neg]
      simpa using e2
theorem div_low {b' : Bool} {m k : Nat} (hk : 0 < k) (h : m % k ≠ 0) : zi true m / zi b' k = zi (true != b') (m / k + 1) ∧ zi true m % zi b' k = ((k - m % k : Nat) : Int) := by
  have e : m % k + k * (m / k) = m := Nat.mod_add_div m k
  have hlt := Nat.mod_lt m hk
  refine div_sign hk ?_ (by omega) (by omega)
  rw [zi_true, zi_true, Int.mul_neg]
  have e2 := congrArg (fun x : Nat => (x : Int)) e
  simp only [Int.natCast_add, Int.natCast_mul] at e2
  simp only [Int.natCast_add, Int.mul_add, Int.natCast_one, Int.mul_one]
  omega
theorem zi_lt_of (b : Bool) {m k : Nat} (h : m ≤ k) : (zi b m).natAbs ≤ k := by rw [zi_abs]; exact h
end Go.Proofs.YtmiklffjffdkgaaGreatDoor
end
