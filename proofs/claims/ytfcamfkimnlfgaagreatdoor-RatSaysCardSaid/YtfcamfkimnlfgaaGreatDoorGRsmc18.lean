/- Several texts in one, each with its own sentence and conditions. -/
import Derived.Test.YtfcamfkimnlfgaaGreatDoorGRsmc17
section
/- The document's own integers: ZSign, ZNeg, ZMul, ZText. Conditions: less than 100000 fours of digits. -/
open Go.RowKit
set_option maxRecDepth 100000
namespace Go.Proofs.YtfcamfkimnlfgaaGreatDoor
/-- In world W the document's own integer stands there. -/
def Rz (W : World) (b : Bool) (A : Option Addr) (c : Nat) (z : Int) : Prop := Rn W A c z.natAbs ∧ Hid (b = decide (z < 0))
theorem Rz.up {W W' : World} {b : Bool} {A : Option Addr} {c : Nat} {z : Int} (h : Rz W b A c z) (hb : Hid (Below W.heap.size W W')) : Rz W' b A c z := ⟨h.1.up hb, h.2⟩
theorem Rz.al {W : World} {b : Bool} {A : Option Addr} {c : Nat} {z : Int} (h : Rz W b A c z) (o : Obj) : Rz (W.alloc o) b A c z := ⟨h.1.al o, h.2⟩
theorem Rz.dr {W : World} {b : Bool} {A : Option Addr} {c : Nat} {z : Int} (h : Rz W b A c z) : Rz W.drew b A c z := h
theorem Rz.zi {W : World} {b : Bool} {A : Option Addr} {c : Nat} {z : Int} (h : Rz W b A c z) : z = zi b z.natAbs := by rw [h.2.out]; exact zi_dec z
def RZv (W : World) (s : Bool) (z : Int) (e : Ending) (w' : World) : Prop := ∃ A c, e = .returned (.agg #[.bool s, .slice A (dq z.natAbs) c]) ∧ Rz w' s A c z ∧ Hid (Below W.heap.size W w')
def RefRz (W : World) (m : Nat) (e : Ending) (w' : World) : Prop := ∃ A c, e = .returned (.slice A (dq m) c) ∧ Rn w' A c m ∧ Hid (Below W.heap.size W w')
section
variable {W : World} {b b' s : Bool} {A A' : Option Addr} {c c' : Nat} {z z' v : Int}
theorem rzsign_h (h : Rz W b A c z) (hv : z.sign = v) : Calls Tryz.prog 83 #[.agg #[.bool b, .slice A (dq z.natAbs) c]] W (IntPost W v) := by
  subst hv
  rcases Int.lt_trichotomy z 0 with h1 | h1 | h1
  · have hb : b = true := by rw [h.2.out]; exact decide_eq_true h1
    subst hb
    have HS : Hid (z.sign = -1) := Int.sign_eq_neg_one_of_neg h1
    clear h h1
    go_enter Tryz.func83, Tryz.ntmps83
    go_wp2
    go_ret
    exact ⟨by rw [HS.out]; rfl, (Below.refl _ _).alloc (Nat.le_refl _) _⟩
  · have hb : b = false := by rw [h.2.out]; exact decide_eq_false (by omega)
    subst hb
    have HS : Hid (z.sign = 0) := by rw [h1]; rfl
    obtain ⟨k, hk⟩ : ∃ k, k = dq z.natAbs := ⟨_, rfl⟩
    have hk0 : k = 0 := by rw [hk, h1]; exact dq_zero
    rw [← hk]
    subst hk0
    clear h h1 hk
    go_enter Tryz.func83, Tryz.ntmps83
    go_wp2
    go_ret
    exact ⟨by rw [HS.out]; rfl, (Below.refl _ _).alloc (Nat.le_refl _) _⟩
  · have hb : b = false := by rw [h.2.out]; exact decide_eq_false (by omega)
    subst hb
    have HS : Hid (z.sign = 1) := Int.sign_eq_one_of_pos h1
    have hq : 0 < dq z.natAbs := dq_pos.2 (by omega)
    clear h h1
    go_enter Tryz.func83, Tryz.ntmps83
    go_wp2
    go_ret
    exact ⟨by rw [HS.out]; rfl, (Below.refl _ _).alloc (Nat.le_refl _) _⟩
theorem rz_two {w0 w2 : World} {p : Nat} {b0 : Bool} {B0 : Option Addr} {k0 d0 : Nat} {A : Option Addr} {c : Nat} (hp : At w2 p [.bool b0, .slice B0 k0 d0]) (h : Rn w2 A c z.natAbs) (hs : Hid (s = decide (z < 0))) (hb : Bel w0 w2) (hq : w0.heap.size ≤ p) :
    RZv w0 s z (.returned (.agg #[.bool s, .slice A (dq z.natAbs) c])) ((w2.setCell ⟨p, 0, none⟩ (.bool s)).setCell ⟨p, 1, none⟩ (.slice A (dq z.natAbs) c)) :=
  ⟨A, c, rfl, ⟨h.put2 hp, hs⟩, (Below.setCell hb hq _).setCell hq _⟩
theorem sig_of {nb : Bool} {v : Int} (h : v = zi nb v.natAbs) : decide (v < 0) = (nb && decide (0 < v.natAbs)) := zsig h
set_option maxHeartbeats 1000000 in
theorem rzneg_true (h : Rz W true A c z) (hs : s = decide (v < 0)) (hv : v = -z) : Calls Tryz.prog 92 #[.agg #[.bool true, .slice A (dq z.natAbs) c]] W (RZv W s v) := by
  have ha : z.natAbs = v.natAbs := by omega
  have hzi : v = zi false v.natAbs := by have h1 := h.zi; unfold zi at *; simp at *; omega
  have CZ : Hid (∀ W', Bel W W' → Calls Tryz.prog 73 #[.bool false, .slice A (dq z.natAbs) c] W' (RZb W' s A (dq z.natAbs) c z.natAbs)) := fun W' hb => rzof_h (h.1.up hb) (by rw [hs, sig_of hzi, ha])
  have HA := hide ha
  have HS := hide hs
  clear h hs hv ha hzi
  have HB := Bel.refl W
  go_enter Tryz.func92, Tryz.ntmps92
  go_wp2_with (first | (go_at_call 73; (with_reducible refine (CZ.out _ ((HB.al _).al _)).mono ?_); rintro e w1 ⟨rfl, rn, hbk⟩; (with_reducible (have HR : At w1 (W.heap.size + 1) [.bool false, .slice none 0 0] := At.up (at_new1 _ _ _ _) hbk; replace HB := ((HB.al _).al _).up hbk)); have hr_0 := HR.c0; have hr_1 := HR.c1; have hr_l := HR.lt; have hr_f0 := HR.f0; have hr_f1 := HR.f1) | fail)
  refine bodyPost_ret (v := .agg #[.bool s, .slice A (dq z.natAbs) c]) (by simp [results, Tryz.results92, go_sem, hr_0, hr_1]) rfl ?_
  have h1 := HA.out
  rw [h1] at rn ⊢
  exact rz_two HR rn HS HB (by omega)
set_option maxHeartbeats 1000000 in
theorem rzneg_false (h : Rz W false A c z) (hs : s = decide (v < 0)) (hv : v = -z) : Calls Tryz.prog 92 #[.agg #[.bool false, .slice A (dq z.natAbs) c]] W (RZv W s v) := by
  have ha : z.natAbs = v.natAbs := by omega
  have hzi : v = zi true v.natAbs := by have h1 := h.zi; unfold zi at *; simp at *; omega
  have CZ : Hid (∀ W', Bel W W' → Calls Tryz.prog 73 #[.bool true, .slice A (dq z.natAbs) c] W' (RZb W' s A (dq z.natAbs) c z.natAbs)) := fun W' hb => rzof_h (h.1.up hb) (by rw [hs, sig_of hzi, ha])
  have HA := hide ha
  have HS := hide hs
  clear h hs hv ha hzi
  have HB := Bel.refl W
  go_enter Tryz.func92, Tryz.ntmps92
  go_wp2_with (first | (go_at_call 73; (with_reducible refine (CZ.out _ ((HB.al _).al _)).mono ?_); rintro e w1 ⟨rfl, rn, hbk⟩; (with_reducible (have HR : At w1 (W.heap.size + 1) [.bool false, .slice none 0 0] := At.up (at_new1 _ _ _ _) hbk; replace HB := ((HB.al _).al _).up hbk)); have hr_0 := HR.c0; have hr_1 := HR.c1; have hr_l := HR.lt; have hr_f0 := HR.f0; have hr_f1 := HR.f1) | fail)
  refine bodyPost_ret (v := .agg #[.bool s, .slice A (dq z.natAbs) c]) (by simp [results, Tryz.results92, go_sem, hr_0, hr_1]) rfl ?_
  have h1 := HA.out
  rw [h1] at rn ⊢
  exact rz_two HR rn HS HB (by omega)
theorem rzneg_h (h : Rz W b A c z) (hs : s = decide (v < 0)) (hv : v = -z) : Calls Tryz.prog 92 #[.agg #[.bool b, .slice A (dq z.natAbs) c]] W (RZv W s v) := by
  cases b
  · exact rzneg_false h hs hv
  · exact rzneg_true h hs hv
set_option maxHeartbeats 2000000 in
theorem rzmul_true_true (h : Rz W true A c z) (h' : Rz W true A' c' z') (hl : dq z.natAbs ≤ 99999) (hl' : dq z'.natAbs ≤ 99999) (hs : s = decide (v < 0)) (hv : v = z * z') : Calls Tryz.prog 96 #[.agg #[.bool true, .slice A (dq z.natAbs) c], .agg #[.bool true, .slice A' (dq z'.natAbs) c']] W (RZv W s v) := by
  have ha : v.natAbs = z.natAbs * z'.natAbs := by rw [hv, Int.natAbs_mul]
  have hzi : v = zi false v.natAbs := by
    rw [ha]
    have h1 := h.zi
    have h2 := h'.zi
    simp only [zi_true, zi_false] at h1 h2 ⊢
    rw [hv, Int.natCast_mul]
    generalize (z.natAbs : Int) = x at h1 ⊢
    generalize (z'.natAbs : Int) = y at h2 ⊢
    rw [h1, h2]
    all_goals first | rw [Int.neg_mul_neg] | rw [Int.neg_mul] | rw [Int.mul_neg]
  have CM : Hid (∀ W', Bel W W' → Calls Tryz.prog 87 #[.slice A (dq z.natAbs) c, .slice A' (dq z'.natAbs) c'] W' (RefRz W' v.natAbs)) := fun W' hb => by rw [ha]; exact rMul_any (h.1.up hb) (h'.1.up hb) (by omega) (by omega)
  have CZ : Hid (∀ W' B e, Rn W' B e v.natAbs → Calls Tryz.prog 73 #[.bool false, .slice B (dq v.natAbs) e] W' (RZb W' s B (dq v.natAbs) e v.natAbs)) := fun W' B e hn => rzof_h hn (by rw [hs, sig_of hzi])
  have HS := hide hs
  clear h h' hl hl' hs hv ha hzi
  have HB := Bel.refl W
  go_enter Tryz.func96, Tryz.ntmps96
  go_wp2_with fail
  go_region_held3 (fun w' => w'.cell? ⟨W.heap.size, 0, none⟩ = some (.bool true) ∧ w'.cell? ⟨W.heap.size, 1, none⟩ = some (.slice A (dq z.natAbs) c) ∧ w'.cell? ⟨W.heap.size + 1, 0, none⟩ = some (.bool true) ∧ w'.cell? ⟨W.heap.size + 1, 1, none⟩ = some (.slice A' (dq z'.natAbs) c'))
    (first | with_reducible exact ⟨(((at_new0 _ _ _).al _).al _).dr.c0, (((at_new0 _ _ _).al _).al _).dr.c1, ((at_new1 _ _ _ _).al _).dr.c0, ((at_new1 _ _ _ _).al _).dr.c1⟩ | with_reducible exact ⟨HP.c0, HP.c1, HQ.c0, HQ.c1⟩ | exact ⟨((HP.far (by omega) _).far (by omega) _).c0, ((HP.far (by omega) _).far (by omega) _).c1, ((HQ.far (by omega) _).far (by omega) _).c0, ((HQ.far (by omega) _).far (by omega) _).c1⟩)
    (first | (go_at_call 87; (with_reducible refine (CM.out _ (((HB.al _).al _).al _).dr).mono ?_); rintro e w1 ⟨mA, mc, rfl, rm, hbk⟩; (with_reducible (have HP : At w1 W.heap.size [.bool true, .slice A (dq z.natAbs) c] := At.up (((at_new0 _ _ _).al _).al _).dr hbk; have HQ : At w1 (W.heap.size + 1) [.bool true, .slice A' (dq z'.natAbs) c'] := At.up ((at_new1 _ _ _ _).al _).dr hbk; have HR : At w1 (W.heap.size + 1 + 1) [.bool false, .slice none 0 0] := At.up (at_new2 _ _ _ _ _).dr hbk; replace HB := ((((HB.al _).al _).al _).dr).up hbk))) | (go_at_call 73; (with_reducible refine (CZ.out _ _ _ rm).mono ?_); rintro e w2 ⟨rfl, rn, hbk⟩; (with_reducible (replace HB := HB.up hbk; replace HP := HP.up hbk; replace HQ := HQ.up hbk; replace HR := HR.up hbk)); have hr_0 := HR.c0; have hr_1 := HR.c1; have hr_l := HR.lt; have hr_f0 := HR.f0; have hr_f1 := HR.f1) | fail)
  go_wp2_with fail
  refine bodyPost_ret (v := .agg #[.bool s, .slice mA (dq v.natAbs) mc]) (by simp [results, Tryz.results96, go_sem, hr_0, hr_1]) rfl ?_
  exact rz_two HR rn HS HB (by omega)
set_option maxHeartbeats 2000000 in
theorem rzmul_true_false (h : Rz W true A c z) (h' : Rz W false A' c' z') (hl : dq z.natAbs ≤ 99999) (hl' : dq z'.natAbs ≤ 99999) (hs : s = decide (v < 0)) (hv : v = z * z') : Calls Tryz.prog 96 #[.agg #[.bool true, .slice A (dq z.natAbs) c], .agg #[.bool false, .slice A' (dq z'.natAbs) c']] W (RZv W s v) := by
  have ha : v.natAbs = z.natAbs * z'.natAbs := by rw [hv, Int.natAbs_mul]
  have hzi : v = zi true v.natAbs := by
    rw [ha]
    have h1 := h.zi
    have h2 := h'.zi
    simp only [zi_true, zi_false] at h1 h2 ⊢
    rw [hv, Int.natCast_mul]
    generalize (z.natAbs : Int) = x at h1 ⊢
    generalize (z'.natAbs : Int) = y at h2 ⊢
    rw [h1, h2]
    all_goals first | rw [Int.neg_mul_neg] | rw [Int.neg_mul] | rw [Int.mul_neg]
  have CM : Hid (∀ W', Bel W W' → Calls Tryz.prog 87 #[.slice A (dq z.natAbs) c, .slice A' (dq z'.natAbs) c'] W' (RefRz W' v.natAbs)) := fun W' hb => by rw [ha]; exact rMul_any (h.1.up hb) (h'.1.up hb) (by omega) (by omega)
  have CZ : Hid (∀ W' B e, Rn W' B e v.natAbs → Calls Tryz.prog 73 #[.bool true, .slice B (dq v.natAbs) e] W' (RZb W' s B (dq v.natAbs) e v.natAbs)) := fun W' B e hn => rzof_h hn (by rw [hs, sig_of hzi])
  have HS := hide hs
  clear h h' hl hl' hs hv ha hzi
  have HB := Bel.refl W
  go_enter Tryz.func96, Tryz.ntmps96
  go_wp2_with fail
  go_region_held3 (fun w' => w'.cell? ⟨W.heap.size, 0, none⟩ = some (.bool true) ∧ w'.cell? ⟨W.heap.size, 1, none⟩ = some (.slice A (dq z.natAbs) c) ∧ w'.cell? ⟨W.heap.size + 1, 0, none⟩ = some (.bool false) ∧ w'.cell? ⟨W.heap.size + 1, 1, none⟩ = some (.slice A' (dq z'.natAbs) c'))
    (first | with_reducible exact ⟨(((at_new0 _ _ _).al _).al _).dr.c0, (((at_new0 _ _ _).al _).al _).dr.c1, ((at_new1 _ _ _ _).al _).dr.c0, ((at_new1 _ _ _ _).al _).dr.c1⟩ | with_reducible exact ⟨HP.c0, HP.c1, HQ.c0, HQ.c1⟩ | exact ⟨((HP.far (by omega) _).far (by omega) _).c0, ((HP.far (by omega) _).far (by omega) _).c1, ((HQ.far (by omega) _).far (by omega) _).c0, ((HQ.far (by omega) _).far (by omega) _).c1⟩)
    (first | (go_at_call 87; (with_reducible refine (CM.out _ (((HB.al _).al _).al _).dr).mono ?_); rintro e w1 ⟨mA, mc, rfl, rm, hbk⟩; (with_reducible (have HP : At w1 W.heap.size [.bool true, .slice A (dq z.natAbs) c] := At.up (((at_new0 _ _ _).al _).al _).dr hbk; have HQ : At w1 (W.heap.size + 1) [.bool false, .slice A' (dq z'.natAbs) c'] := At.up ((at_new1 _ _ _ _).al _).dr hbk; have HR : At w1 (W.heap.size + 1 + 1) [.bool false, .slice none 0 0] := At.up (at_new2 _ _ _ _ _).dr hbk; replace HB := ((((HB.al _).al _).al _).dr).up hbk))) | (go_at_call 73; (with_reducible refine (CZ.out _ _ _ rm).mono ?_); rintro e w2 ⟨rfl, rn, hbk⟩; (with_reducible (replace HB := HB.up hbk; replace HP := HP.up hbk; replace HQ := HQ.up hbk; replace HR := HR.up hbk)); have hr_0 := HR.c0; have hr_1 := HR.c1; have hr_l := HR.lt; have hr_f0 := HR.f0; have hr_f1 := HR.f1) | fail)
  go_wp2_with fail
  refine bodyPost_ret (v := .agg #[.bool s, .slice mA (dq v.natAbs) mc]) (by simp [results, Tryz.results96, go_sem, hr_0, hr_1]) rfl ?_
  exact rz_two HR rn HS HB (by omega)
set_option maxHeartbeats 2000000 in
theorem rzmul_false_true (h : Rz W false A c z) (h' : Rz W true A' c' z') (hl : dq z.natAbs ≤ 99999) (hl' : dq z'.natAbs ≤ 99999) (hs : s = decide (v < 0)) (hv : v = z * z') : Calls Tryz.prog 96 #[.agg #[.bool false, .slice A (dq z.natAbs) c], .agg #[.bool true, .slice A' (dq z'.natAbs) c']] W (RZv W s v) := by
  have ha : v.natAbs = z.natAbs * z'.natAbs := by rw [hv, Int.natAbs_mul]
  have hzi : v = zi true v.natAbs := by
    rw [ha]
    have h1 := h.zi
    have h2 := h'.zi
    simp only [zi_true, zi_false] at h1 h2 ⊢
    rw [hv, Int.natCast_mul]
    generalize (z.natAbs : Int) = x at h1 ⊢
    generalize (z'.natAbs : Int) = y at h2 ⊢
    rw [h1, h2]
    all_goals first | rw [Int.neg_mul_neg] | rw [Int.neg_mul] | rw [Int.mul_neg]
  have CM : Hid (∀ W', Bel W W' → Calls Tryz.prog 87 #[.slice A (dq z.natAbs) c, .slice A' (dq z'.natAbs) c'] W' (RefRz W' v.natAbs)) := fun W' hb => by rw [ha]; exact rMul_any (h.1.up hb) (h'.1.up hb) (by omega) (by omega)
  have CZ : Hid (∀ W' B e, Rn W' B e v.natAbs → Calls Tryz.prog 73 #[.bool true, .slice B (dq v.natAbs) e] W' (RZb W' s B (dq v.natAbs) e v.natAbs)) := fun W' B e hn => rzof_h hn (by rw [hs, sig_of hzi])
  have HS := hide hs
  clear h h' hl hl' hs hv ha hzi
  have HB := Bel.refl W
  go_enter Tryz.func96, Tryz.ntmps96
  go_wp2_with fail
  go_region_held3 (fun w' => w'.cell? ⟨W.heap.size, 0, none⟩ = some (.bool false) ∧ w'.cell? ⟨W.heap.size, 1, none⟩ = some (.slice A (dq z.natAbs) c) ∧ w'.cell? ⟨W.heap.size + 1, 0, none⟩ = some (.bool true) ∧ w'.cell? ⟨W.heap.size + 1, 1, none⟩ = some (.slice A' (dq z'.natAbs) c'))
    (first | with_reducible exact ⟨(((at_new0 _ _ _).al _).al _).dr.c0, (((at_new0 _ _ _).al _).al _).dr.c1, ((at_new1 _ _ _ _).al _).dr.c0, ((at_new1 _ _ _ _).al _).dr.c1⟩ | with_reducible exact ⟨HP.c0, HP.c1, HQ.c0, HQ.c1⟩ | exact ⟨((HP.far (by omega) _).far (by omega) _).c0, ((HP.far (by omega) _).far (by omega) _).c1, ((HQ.far (by omega) _).far (by omega) _).c0, ((HQ.far (by omega) _).far (by omega) _).c1⟩)
    (first | (go_at_call 87; (with_reducible refine (CM.out _ (((HB.al _).al _).al _).dr).mono ?_); rintro e w1 ⟨mA, mc, rfl, rm, hbk⟩; (with_reducible (have HP : At w1 W.heap.size [.bool false, .slice A (dq z.natAbs) c] := At.up (((at_new0 _ _ _).al _).al _).dr hbk; have HQ : At w1 (W.heap.size + 1) [.bool true, .slice A' (dq z'.natAbs) c'] := At.up ((at_new1 _ _ _ _).al _).dr hbk; have HR : At w1 (W.heap.size + 1 + 1) [.bool false, .slice none 0 0] := At.up (at_new2 _ _ _ _ _).dr hbk; replace HB := ((((HB.al _).al _).al _).dr).up hbk))) | (go_at_call 73; (with_reducible refine (CZ.out _ _ _ rm).mono ?_); rintro e w2 ⟨rfl, rn, hbk⟩; (with_reducible (replace HB := HB.up hbk; replace HP := HP.up hbk; replace HQ := HQ.up hbk; replace HR := HR.up hbk)); have hr_0 := HR.c0; have hr_1 := HR.c1; have hr_l := HR.lt; have hr_f0 := HR.f0; have hr_f1 := HR.f1) | fail)
  go_wp2_with fail
  refine bodyPost_ret (v := .agg #[.bool s, .slice mA (dq v.natAbs) mc]) (by simp [results, Tryz.results96, go_sem, hr_0, hr_1]) rfl ?_
  exact rz_two HR rn HS HB (by omega)
set_option maxHeartbeats 2000000 in
theorem rzmul_false_false (h : Rz W false A c z) (h' : Rz W false A' c' z') (hl : dq z.natAbs ≤ 99999) (hl' : dq z'.natAbs ≤ 99999) (hs : s = decide (v < 0)) (hv : v = z * z') : Calls Tryz.prog 96 #[.agg #[.bool false, .slice A (dq z.natAbs) c], .agg #[.bool false, .slice A' (dq z'.natAbs) c']] W (RZv W s v) := by
  have ha : v.natAbs = z.natAbs * z'.natAbs := by rw [hv, Int.natAbs_mul]
  have hzi : v = zi false v.natAbs := by
    rw [ha]
    have h1 := h.zi
    have h2 := h'.zi
    simp only [zi_true, zi_false] at h1 h2 ⊢
    rw [hv, Int.natCast_mul]
    generalize (z.natAbs : Int) = x at h1 ⊢
    generalize (z'.natAbs : Int) = y at h2 ⊢
    rw [h1, h2]
    all_goals first | rw [Int.neg_mul_neg] | rw [Int.neg_mul] | rw [Int.mul_neg]
  have CM : Hid (∀ W', Bel W W' → Calls Tryz.prog 87 #[.slice A (dq z.natAbs) c, .slice A' (dq z'.natAbs) c'] W' (RefRz W' v.natAbs)) := fun W' hb => by rw [ha]; exact rMul_any (h.1.up hb) (h'.1.up hb) (by omega) (by omega)
  have CZ : Hid (∀ W' B e, Rn W' B e v.natAbs → Calls Tryz.prog 73 #[.bool false, .slice B (dq v.natAbs) e] W' (RZb W' s B (dq v.natAbs) e v.natAbs)) := fun W' B e hn => rzof_h hn (by rw [hs, sig_of hzi])
  have HS := hide hs
  clear h h' hl hl' hs hv ha hzi
  have HB := Bel.refl W
  go_enter Tryz.func96, Tryz.ntmps96
  go_wp2_with fail
  go_region_held3 (fun w' => w'.cell? ⟨W.heap.size, 0, none⟩ = some (.bool false) ∧ w'.cell? ⟨W.heap.size, 1, none⟩ = some (.slice A (dq z.natAbs) c) ∧ w'.cell? ⟨W.heap.size + 1, 0, none⟩ = some (.bool false) ∧ w'.cell? ⟨W.heap.size + 1, 1, none⟩ = some (.slice A' (dq z'.natAbs) c'))
    (first | with_reducible exact ⟨(((at_new0 _ _ _).al _).al _).dr.c0, (((at_new0 _ _ _).al _).al _).dr.c1, ((at_new1 _ _ _ _).al _).dr.c0, ((at_new1 _ _ _ _).al _).dr.c1⟩ | with_reducible exact ⟨HP.c0, HP.c1, HQ.c0, HQ.c1⟩ | exact ⟨((HP.far (by omega) _).far (by omega) _).c0, ((HP.far (by omega) _).far (by omega) _).c1, ((HQ.far (by omega) _).far (by omega) _).c0, ((HQ.far (by omega) _).far (by omega) _).c1⟩)
    (first | (go_at_call 87; (with_reducible refine (CM.out _ (((HB.al _).al _).al _).dr).mono ?_); rintro e w1 ⟨mA, mc, rfl, rm, hbk⟩; (with_reducible (have HP : At w1 W.heap.size [.bool false, .slice A (dq z.natAbs) c] := At.up (((at_new0 _ _ _).al _).al _).dr hbk; have HQ : At w1 (W.heap.size + 1) [.bool false, .slice A' (dq z'.natAbs) c'] := At.up ((at_new1 _ _ _ _).al _).dr hbk; have HR : At w1 (W.heap.size + 1 + 1) [.bool false, .slice none 0 0] := At.up (at_new2 _ _ _ _ _).dr hbk; replace HB := ((((HB.al _).al _).al _).dr).up hbk))) | (go_at_call 73; (with_reducible refine (CZ.out _ _ _ rm).mono ?_); rintro e w2 ⟨rfl, rn, hbk⟩; (with_reducible (replace HB := HB.up hbk; replace HP := HP.up hbk; replace HQ := HQ.up hbk; replace HR := HR.up hbk)); have hr_0 := HR.c0; have hr_1 := HR.c1; have hr_l := HR.lt; have hr_f0 := HR.f0; have hr_f1 := HR.f1) | fail)
  go_wp2_with fail
  refine bodyPost_ret (v := .agg #[.bool s, .slice mA (dq v.natAbs) mc]) (by simp [results, Tryz.results96, go_sem, hr_0, hr_1]) rfl ?_
  exact rz_two HR rn HS HB (by omega)
theorem rzmul_h (h : Rz W b A c z) (h' : Rz W b' A' c' z') (hl : dq z.natAbs ≤ 99999) (hl' : dq z'.natAbs ≤ 99999) (hs : s = decide (v < 0)) (hv : v = z * z') : Calls Tryz.prog 96 #[.agg #[.bool b, .slice A (dq z.natAbs) c], .agg #[.bool b', .slice A' (dq z'.natAbs) c']] W (RZv W s v) := by
  cases b <;> cases b'
  · exact rzmul_false_false h h' hl hl' hs hv
  · exact rzmul_false_true h h' hl hl' hs hv
  · exact rzmul_true_false h h' hl hl' hs hv
  · exact rzmul_true_true h h' hl hl' hs hv
end
end Go.Proofs.YtfcamfkimnlfgaaGreatDoor
end

section
/- The document's own integers: ZAdd, ZCmp, ZText. Conditions: less than 99999 fours of digits. -/
open Go.RowKit
set_option maxRecDepth 100000
namespace Go.Proofs.YtfcamfkimnlfgaaGreatDoor
theorem rcmp_z {W : World} {A A' : Option Addr} {c c' m n : Nat} {v : Int} (h : Rn W A c m) (h' : Rn W A' c' n) (hl : dq m ≤ 1000000) (hl' : dq n ≤ 1000000) (hv : cmpI m n = v) : Calls Tryz.prog 115 #[.slice A (dq m) c, .slice A' (dq n) c'] W (IntPost W v) := by
  subst hv
  refine (rCmp_any h h' hl hl').mono ?_
  rintro e w' ⟨he, q, rfl⟩
  exact ⟨he, below_drewN (Below.refl _ _) q⟩
section
variable {W : World} {b b' s : Bool} {A A' : Option Addr} {c c' : Nat} {z z' v : Int}
set_option maxHeartbeats 2000000 in
theorem rzadd_same_true_true (h : Rz W true A c z) (h' : Rz W true A' c' z') (hl : dq z.natAbs ≤ 99999) (hl' : dq z'.natAbs ≤ 99999) (hs : s = decide (v < 0)) (hv : v = z + z') : Calls Tryz.prog 95 #[.agg #[.bool true, .slice A (dq z.natAbs) c], .agg #[.bool true, .slice A' (dq z'.natAbs) c']] W (RZv W s v) := by
  have h1 := h.zi
  have h2 := h'.zi
  simp only [zi_true, zi_false] at h1 h2
  have ha : v.natAbs = z.natAbs + z'.natAbs := by omega
  have hzi : v = zi true v.natAbs := by simp only [zi_true, zi_false]; omega
  have CM : Hid (∀ W', Bel W W' → Calls Tryz.prog 86 #[.slice A (dq z.natAbs) c, .slice A' (dq z'.natAbs) c'] W' (RefRz W' v.natAbs)) := fun W' hb => by rw [ha]; exact rAdd_any (h.1.up hb) (h'.1.up hb) (by omega) (by omega)
  have CZ : Hid (∀ W' B e, Rn W' B e v.natAbs → Calls Tryz.prog 73 #[.bool true, .slice B (dq v.natAbs) e] W' (RZb W' s B (dq v.natAbs) e v.natAbs)) := fun W' B e hn => rzof_h hn (by rw [hs, sig_of hzi])
  have HS := hide hs
  clear h h' hl hl' hs hv ha hzi h1 h2
  have HB := Bel.refl W
  go_enter Tryz.func95, Tryz.ntmps95
  go_wp2_with fail
  go_region_held3 (fun w' => w'.cell? ⟨W.heap.size, 0, none⟩ = some (.bool true) ∧ w'.cell? ⟨W.heap.size, 1, none⟩ = some (.slice A (dq z.natAbs) c) ∧ w'.cell? ⟨W.heap.size + 1, 0, none⟩ = some (.bool true) ∧ w'.cell? ⟨W.heap.size + 1, 1, none⟩ = some (.slice A' (dq z'.natAbs) c'))
    (first | with_reducible exact ⟨(((at_new0 _ _ _).al _).al _).dr.c0, (((at_new0 _ _ _).al _).al _).dr.c1, ((at_new1 _ _ _ _).al _).dr.c0, ((at_new1 _ _ _ _).al _).dr.c1⟩ | with_reducible exact ⟨HP.c0, HP.c1, HQ.c0, HQ.c1⟩ | exact ⟨((HP.far (by omega) _).far (by omega) _).c0, ((HP.far (by omega) _).far (by omega) _).c1, ((HQ.far (by omega) _).far (by omega) _).c0, ((HQ.far (by omega) _).far (by omega) _).c1⟩)
    (first | (go_at_call 86; (with_reducible refine (CM.out _ (((HB.al _).al _).al _).dr).mono ?_); rintro e w1 ⟨mA, mc, rfl, rm, hbk⟩; (with_reducible (have HP : At w1 W.heap.size [.bool true, .slice A (dq z.natAbs) c] := At.up (((at_new0 _ _ _).al _).al _).dr hbk; have HQ : At w1 (W.heap.size + 1) [.bool true, .slice A' (dq z'.natAbs) c'] := At.up ((at_new1 _ _ _ _).al _).dr hbk; have HR : At w1 (W.heap.size + 1 + 1) [.bool false, .slice none 0 0] := At.up (at_new2 _ _ _ _ _).dr hbk; replace HB := (((HB.al _).al _).al _).dr.up hbk))) | (go_at_call 73; (with_reducible refine (CZ.out _ _ _ rm).mono ?_); rintro e w2 ⟨rfl, rn, hbk⟩; (with_reducible (replace HB := HB.up hbk; replace HP := HP.up hbk; replace HQ := HQ.up hbk; replace HR := HR.up hbk)); have hr_0 := HR.c0; have hr_1 := HR.c1; have hr_l := HR.lt; have hr_f0 := HR.f0; have hr_f1 := HR.f1) | fail)
  go_wp2_with fail
  refine bodyPost_ret (v := .agg #[.bool s, .slice mA (dq v.natAbs) mc]) (by simp [results, Tryz.results95, go_sem, hr_0, hr_1]) rfl ?_
  exact rz_two HR rn HS HB (by omega)
set_option maxHeartbeats 2000000 in
theorem rzadd_ge_true_false (h : Rz W true A c z) (h' : Rz W false A' c' z') (hl : dq z.natAbs ≤ 99999) (hl' : dq z'.natAbs ≤ 99999) (hs : s = decide (v < 0)) (hv : v = z + z') (hc : z'.natAbs ≤ z.natAbs) : Calls Tryz.prog 95 #[.agg #[.bool true, .slice A (dq z.natAbs) c], .agg #[.bool false, .slice A' (dq z'.natAbs) c']] W (RZv W s v) := by
  have h1 := h.zi
  have h2 := h'.zi
  simp only [zi_true, zi_false] at h1 h2
  have ha : v.natAbs = z.natAbs - z'.natAbs := by omega
  have hzi : v = zi true v.natAbs := by simp only [zi_true, zi_false]; omega
  obtain ⟨u, hu, hu0⟩ : ∃ u, cmpI z.natAbs z'.natAbs = u ∧ 0 ≤ u := ⟨_, rfl, by
    rcases Nat.lt_trichotomy z.natAbs z'.natAbs with h1 | h1 | h1
    · first | (rw [cmpI_lt h1]; decide) | (exfalso; omega)
    · first | (rw [cmpI_eq h1]; decide) | (exfalso; omega)
    · first | (rw [cmpI_gt h1]; decide) | (exfalso; omega)⟩
  have CC : Hid (∀ W', Bel W W' → Calls Tryz.prog 115 #[.slice A (dq z.natAbs) c, .slice A' (dq z'.natAbs) c'] W' (IntPost W' u)) := fun W' hb => rcmp_z (h.1.up hb) (h'.1.up hb) (by omega) (by omega) hu
  have CM : Hid (∀ W', Bel W W' → Calls Tryz.prog 143 #[.slice A (dq z.natAbs) c, .slice A' (dq z'.natAbs) c'] W' (RefRz W' v.natAbs)) := fun W' hb => by rw [ha]; exact rSub_any (h.1.up hb) (h'.1.up hb) (by omega) hc
  have CZ : Hid (∀ W' B e, Rn W' B e v.natAbs → Calls Tryz.prog 73 #[.bool true, .slice B (dq v.natAbs) e] W' (RZb W' s B (dq v.natAbs) e v.natAbs)) := fun W' B e hn => rzof_h hn (by rw [hs, sig_of hzi])
  have HS := hide hs
  clear h h' hl hl' hs hv ha hzi h1 h2 hc hu
  have HB := Bel.refl W
  go_enter Tryz.func95, Tryz.ntmps95
  go_wp2_with (first | (go_at_call 115; (with_reducible refine (CC.out _ (((HB.al _).al _).al _)).mono ?_); rintro e w1 ⟨rfl, hbk⟩; (with_reducible (have HP : At w1 W.heap.size [.bool true, .slice A (dq z.natAbs) c] := At.up (((at_new0 _ _ _).al _).al _) hbk; have HQ : At w1 (W.heap.size + 1) [.bool false, .slice A' (dq z'.natAbs) c'] := At.up ((at_new1 _ _ _ _).al _) hbk; have HR : At w1 (W.heap.size + 1 + 1) [.bool false, .slice none 0 0] := At.up (at_new2 _ _ _ _ _) hbk; replace HB := (((HB.al _).al _).al _).up hbk))) | fail)
  go_region_held3 (fun w' => w'.cell? ⟨W.heap.size, 0, none⟩ = some (.bool true) ∧ w'.cell? ⟨W.heap.size, 1, none⟩ = some (.slice A (dq z.natAbs) c) ∧ w'.cell? ⟨W.heap.size + 1, 0, none⟩ = some (.bool false) ∧ w'.cell? ⟨W.heap.size + 1, 1, none⟩ = some (.slice A' (dq z'.natAbs) c'))
    (first | with_reducible exact ⟨HP.dr.c0, HP.dr.c1, HQ.dr.c0, HQ.dr.c1⟩ | with_reducible exact ⟨HP.c0, HP.c1, HQ.c0, HQ.c1⟩ | exact ⟨((HP.far (by omega) _).far (by omega) _).c0, ((HP.far (by omega) _).far (by omega) _).c1, ((HQ.far (by omega) _).far (by omega) _).c0, ((HQ.far (by omega) _).far (by omega) _).c1⟩)
    (first | (go_at_call 143; (with_reducible refine (CM.out _ HB.dr).mono ?_); rintro e w2 ⟨mA, mc, rfl, rm, hbk⟩; (with_reducible (replace HB := HB.dr.up hbk; replace HP := HP.dr.up hbk; replace HQ := HQ.dr.up hbk; replace HR := HR.dr.up hbk))) | (go_at_call 73; (with_reducible refine (CZ.out _ _ _ rm).mono ?_); rintro e w3 ⟨rfl, rn, hbk⟩; (with_reducible (replace HB := HB.up hbk; replace HP := HP.up hbk; replace HQ := HQ.up hbk; replace HR := HR.up hbk)); have hr_0 := HR.c0; have hr_1 := HR.c1; have hr_l := HR.lt; have hr_f0 := HR.f0; have hr_f1 := HR.f1) | fail)
  go_wp2_with fail
  refine bodyPost_ret (v := .agg #[.bool s, .slice mA (dq v.natAbs) mc]) (by simp [results, Tryz.results95, go_sem, hr_0, hr_1]) rfl ?_
  exact rz_two HR rn HS HB (by omega)
set_option maxHeartbeats 2000000 in
theorem rzadd_lt_true_false (h : Rz W true A c z) (h' : Rz W false A' c' z') (hl : dq z.natAbs ≤ 99999) (hl' : dq z'.natAbs ≤ 99999) (hs : s = decide (v < 0)) (hv : v = z + z') (hc : ¬ z'.natAbs ≤ z.natAbs) : Calls Tryz.prog 95 #[.agg #[.bool true, .slice A (dq z.natAbs) c], .agg #[.bool false, .slice A' (dq z'.natAbs) c']] W (RZv W s v) := by
  have h1 := h.zi
  have h2 := h'.zi
  simp only [zi_true, zi_false] at h1 h2
  have ha : v.natAbs = z'.natAbs - z.natAbs := by omega
  have hzi : v = zi false v.natAbs := by simp only [zi_true, zi_false]; omega
  obtain ⟨u, hu, hu0⟩ : ∃ u, cmpI z.natAbs z'.natAbs = u ∧ ¬ 0 ≤ u := ⟨_, rfl, by
    rcases Nat.lt_trichotomy z.natAbs z'.natAbs with h1 | h1 | h1
    · first | (rw [cmpI_lt h1]; decide) | (exfalso; omega)
    · first | (rw [cmpI_eq h1]; decide) | (exfalso; omega)
    · first | (rw [cmpI_gt h1]; decide) | (exfalso; omega)⟩
  have CC : Hid (∀ W', Bel W W' → Calls Tryz.prog 115 #[.slice A (dq z.natAbs) c, .slice A' (dq z'.natAbs) c'] W' (IntPost W' u)) := fun W' hb => rcmp_z (h.1.up hb) (h'.1.up hb) (by omega) (by omega) hu
  have CM : Hid (∀ W', Bel W W' → Calls Tryz.prog 143 #[.slice A' (dq z'.natAbs) c', .slice A (dq z.natAbs) c] W' (RefRz W' v.natAbs)) := fun W' hb => by rw [ha]; exact rSub_any (h'.1.up hb) (h.1.up hb) (by omega) (by omega)
  have CZ : Hid (∀ W' B e, Rn W' B e v.natAbs → Calls Tryz.prog 73 #[.bool false, .slice B (dq v.natAbs) e] W' (RZb W' s B (dq v.natAbs) e v.natAbs)) := fun W' B e hn => rzof_h hn (by rw [hs, sig_of hzi])
  have HS := hide hs
  clear h h' hl hl' hs hv ha hzi h1 h2 hc hu
  have HB := Bel.refl W
  go_enter Tryz.func95, Tryz.ntmps95
  go_wp2_with (first | (go_at_call 115; (with_reducible refine (CC.out _ (((HB.al _).al _).al _)).mono ?_); rintro e w1 ⟨rfl, hbk⟩; (with_reducible (have HP : At w1 W.heap.size [.bool true, .slice A (dq z.natAbs) c] := At.up (((at_new0 _ _ _).al _).al _) hbk; have HQ : At w1 (W.heap.size + 1) [.bool false, .slice A' (dq z'.natAbs) c'] := At.up ((at_new1 _ _ _ _).al _) hbk; have HR : At w1 (W.heap.size + 1 + 1) [.bool false, .slice none 0 0] := At.up (at_new2 _ _ _ _ _) hbk; replace HB := (((HB.al _).al _).al _).up hbk))) | fail)
  go_region_held3 (fun w' => w'.cell? ⟨W.heap.size, 0, none⟩ = some (.bool true) ∧ w'.cell? ⟨W.heap.size, 1, none⟩ = some (.slice A (dq z.natAbs) c) ∧ w'.cell? ⟨W.heap.size + 1, 0, none⟩ = some (.bool false) ∧ w'.cell? ⟨W.heap.size + 1, 1, none⟩ = some (.slice A' (dq z'.natAbs) c'))
    (first | with_reducible exact ⟨HP.dr.c0, HP.dr.c1, HQ.dr.c0, HQ.dr.c1⟩ | with_reducible exact ⟨HP.c0, HP.c1, HQ.c0, HQ.c1⟩ | exact ⟨((HP.far (by omega) _).far (by omega) _).c0, ((HP.far (by omega) _).far (by omega) _).c1, ((HQ.far (by omega) _).far (by omega) _).c0, ((HQ.far (by omega) _).far (by omega) _).c1⟩)
    (first | (go_at_call 143; (with_reducible refine (CM.out _ HB.dr).mono ?_); rintro e w2 ⟨mA, mc, rfl, rm, hbk⟩; (with_reducible (replace HB := HB.dr.up hbk; replace HP := HP.dr.up hbk; replace HQ := HQ.dr.up hbk; replace HR := HR.dr.up hbk))) | (go_at_call 73; (with_reducible refine (CZ.out _ _ _ rm).mono ?_); rintro e w3 ⟨rfl, rn, hbk⟩; (with_reducible (replace HB := HB.up hbk; replace HP := HP.up hbk; replace HQ := HQ.up hbk; replace HR := HR.up hbk)); have hr_0 := HR.c0; have hr_1 := HR.c1; have hr_l := HR.lt; have hr_f0 := HR.f0; have hr_f1 := HR.f1) | fail)
  go_wp2_with fail
  refine bodyPost_ret (v := .agg #[.bool s, .slice mA (dq v.natAbs) mc]) (by simp [results, Tryz.results95, go_sem, hr_0, hr_1]) rfl ?_
  exact rz_two HR rn HS HB (by omega)
set_option maxHeartbeats 2000000 in
theorem rzadd_same_false_false (h : Rz W false A c z) (h' : Rz W false A' c' z') (hl : dq z.natAbs ≤ 99999) (hl' : dq z'.natAbs ≤ 99999) (hs : s = decide (v < 0)) (hv : v = z + z') : Calls Tryz.prog 95 #[.agg #[.bool false, .slice A (dq z.natAbs) c], .agg #[.bool false, .slice A' (dq z'.natAbs) c']] W (RZv W s v) := by
  have h1 := h.zi
  have h2 := h'.zi
  simp only [zi_true, zi_false] at h1 h2
  have ha : v.natAbs = z.natAbs + z'.natAbs := by omega
  have hzi : v = zi false v.natAbs := by simp only [zi_true, zi_false]; omega
  have CM : Hid (∀ W', Bel W W' → Calls Tryz.prog 86 #[.slice A (dq z.natAbs) c, .slice A' (dq z'.natAbs) c'] W' (RefRz W' v.natAbs)) := fun W' hb => by rw [ha]; exact rAdd_any (h.1.up hb) (h'.1.up hb) (by omega) (by omega)
  have CZ : Hid (∀ W' B e, Rn W' B e v.natAbs → Calls Tryz.prog 73 #[.bool false, .slice B (dq v.natAbs) e] W' (RZb W' s B (dq v.natAbs) e v.natAbs)) := fun W' B e hn => rzof_h hn (by rw [hs, sig_of hzi])
  have HS := hide hs
  clear h h' hl hl' hs hv ha hzi h1 h2
  have HB := Bel.refl W
  go_enter Tryz.func95, Tryz.ntmps95
  go_wp2_with fail
  go_region_held3 (fun w' => w'.cell? ⟨W.heap.size, 0, none⟩ = some (.bool false) ∧ w'.cell? ⟨W.heap.size, 1, none⟩ = some (.slice A (dq z.natAbs) c) ∧ w'.cell? ⟨W.heap.size + 1, 0, none⟩ = some (.bool false) ∧ w'.cell? ⟨W.heap.size + 1, 1, none⟩ = some (.slice A' (dq z'.natAbs) c'))
    (first | with_reducible exact ⟨(((at_new0 _ _ _).al _).al _).dr.c0, (((at_new0 _ _ _).al _).al _).dr.c1, ((at_new1 _ _ _ _).al _).dr.c0, ((at_new1 _ _ _ _).al _).dr.c1⟩ | with_reducible exact ⟨HP.c0, HP.c1, HQ.c0, HQ.c1⟩ | exact ⟨((HP.far (by omega) _).far (by omega) _).c0, ((HP.far (by omega) _).far (by omega) _).c1, ((HQ.far (by omega) _).far (by omega) _).c0, ((HQ.far (by omega) _).far (by omega) _).c1⟩)
    (first | (go_at_call 86; (with_reducible refine (CM.out _ (((HB.al _).al _).al _).dr).mono ?_); rintro e w1 ⟨mA, mc, rfl, rm, hbk⟩; (with_reducible (have HP : At w1 W.heap.size [.bool false, .slice A (dq z.natAbs) c] := At.up (((at_new0 _ _ _).al _).al _).dr hbk; have HQ : At w1 (W.heap.size + 1) [.bool false, .slice A' (dq z'.natAbs) c'] := At.up ((at_new1 _ _ _ _).al _).dr hbk; have HR : At w1 (W.heap.size + 1 + 1) [.bool false, .slice none 0 0] := At.up (at_new2 _ _ _ _ _).dr hbk; replace HB := (((HB.al _).al _).al _).dr.up hbk))) | (go_at_call 73; (with_reducible refine (CZ.out _ _ _ rm).mono ?_); rintro e w2 ⟨rfl, rn, hbk⟩; (with_reducible (replace HB := HB.up hbk; replace HP := HP.up hbk; replace HQ := HQ.up hbk; replace HR := HR.up hbk)); have hr_0 := HR.c0; have hr_1 := HR.c1; have hr_l := HR.lt; have hr_f0 := HR.f0; have hr_f1 := HR.f1) | fail)
  go_wp2_with fail
  refine bodyPost_ret (v := .agg #[.bool s, .slice mA (dq v.natAbs) mc]) (by simp [results, Tryz.results95, go_sem, hr_0, hr_1]) rfl ?_
  exact rz_two HR rn HS HB (by omega)
set_option maxHeartbeats 2000000 in
theorem rzadd_ge_false_true (h : Rz W false A c z) (h' : Rz W true A' c' z') (hl : dq z.natAbs ≤ 99999) (hl' : dq z'.natAbs ≤ 99999) (hs : s = decide (v < 0)) (hv : v = z + z') (hc : z'.natAbs ≤ z.natAbs) : Calls Tryz.prog 95 #[.agg #[.bool false, .slice A (dq z.natAbs) c], .agg #[.bool true, .slice A' (dq z'.natAbs) c']] W (RZv W s v) := by
  have h1 := h.zi
  have h2 := h'.zi
  simp only [zi_true, zi_false] at h1 h2
  have ha : v.natAbs = z.natAbs - z'.natAbs := by omega
  have hzi : v = zi false v.natAbs := by simp only [zi_true, zi_false]; omega
  obtain ⟨u, hu, hu0⟩ : ∃ u, cmpI z.natAbs z'.natAbs = u ∧ 0 ≤ u := ⟨_, rfl, by
    rcases Nat.lt_trichotomy z.natAbs z'.natAbs with h1 | h1 | h1
    · first | (rw [cmpI_lt h1]; decide) | (exfalso; omega)
    · first | (rw [cmpI_eq h1]; decide) | (exfalso; omega)
    · first | (rw [cmpI_gt h1]; decide) | (exfalso; omega)⟩
  have CC : Hid (∀ W', Bel W W' → Calls Tryz.prog 115 #[.slice A (dq z.natAbs) c, .slice A' (dq z'.natAbs) c'] W' (IntPost W' u)) := fun W' hb => rcmp_z (h.1.up hb) (h'.1.up hb) (by omega) (by omega) hu
  have CM : Hid (∀ W', Bel W W' → Calls Tryz.prog 143 #[.slice A (dq z.natAbs) c, .slice A' (dq z'.natAbs) c'] W' (RefRz W' v.natAbs)) := fun W' hb => by rw [ha]; exact rSub_any (h.1.up hb) (h'.1.up hb) (by omega) hc
  have CZ : Hid (∀ W' B e, Rn W' B e v.natAbs → Calls Tryz.prog 73 #[.bool false, .slice B (dq v.natAbs) e] W' (RZb W' s B (dq v.natAbs) e v.natAbs)) := fun W' B e hn => rzof_h hn (by rw [hs, sig_of hzi])
  have HS := hide hs
  clear h h' hl hl' hs hv ha hzi h1 h2 hc hu
  have HB := Bel.refl W
  go_enter Tryz.func95, Tryz.ntmps95
  go_wp2_with (first | (go_at_call 115; (with_reducible refine (CC.out _ (((HB.al _).al _).al _)).mono ?_); rintro e w1 ⟨rfl, hbk⟩; (with_reducible (have HP : At w1 W.heap.size [.bool false, .slice A (dq z.natAbs) c] := At.up (((at_new0 _ _ _).al _).al _) hbk; have HQ : At w1 (W.heap.size + 1) [.bool true, .slice A' (dq z'.natAbs) c'] := At.up ((at_new1 _ _ _ _).al _) hbk; have HR : At w1 (W.heap.size + 1 + 1) [.bool false, .slice none 0 0] := At.up (at_new2 _ _ _ _ _) hbk; replace HB := (((HB.al _).al _).al _).up hbk))) | fail)
  go_region_held3 (fun w' => w'.cell? ⟨W.heap.size, 0, none⟩ = some (.bool false) ∧ w'.cell? ⟨W.heap.size, 1, none⟩ = some (.slice A (dq z.natAbs) c) ∧ w'.cell? ⟨W.heap.size + 1, 0, none⟩ = some (.bool true) ∧ w'.cell? ⟨W.heap.size + 1, 1, none⟩ = some (.slice A' (dq z'.natAbs) c'))
    (first | with_reducible exact ⟨HP.dr.c0, HP.dr.c1, HQ.dr.c0, HQ.dr.c1⟩ | with_reducible exact ⟨HP.c0, HP.c1, HQ.c0, HQ.c1⟩ | exact ⟨((HP.far (by omega) _).far (by omega) _).c0, ((HP.far (by omega) _).far (by omega) _).c1, ((HQ.far (by omega) _).far (by omega) _).c0, ((HQ.far (by omega) _).far (by omega) _).c1⟩)
    (first | (go_at_call 143; (with_reducible refine (CM.out _ HB.dr).mono ?_); rintro e w2 ⟨mA, mc, rfl, rm, hbk⟩; (with_reducible (replace HB := HB.dr.up hbk; replace HP := HP.dr.up hbk; replace HQ := HQ.dr.up hbk; replace HR := HR.dr.up hbk))) | (go_at_call 73; (with_reducible refine (CZ.out _ _ _ rm).mono ?_); rintro e w3 ⟨rfl, rn, hbk⟩; (with_reducible (replace HB := HB.up hbk; replace HP := HP.up hbk; replace HQ := HQ.up hbk; replace HR := HR.up hbk)); have hr_0 := HR.c0; have hr_1 := HR.c1; have hr_l := HR.lt; have hr_f0 := HR.f0; have hr_f1 := HR.f1) | fail)
  go_wp2_with fail
  refine bodyPost_ret (v := .agg #[.bool s, .slice mA (dq v.natAbs) mc]) (by simp [results, Tryz.results95, go_sem, hr_0, hr_1]) rfl ?_
  exact rz_two HR rn HS HB (by omega)
set_option maxHeartbeats 2000000 in
theorem rzadd_lt_false_true (h : Rz W false A c z) (h' : Rz W true A' c' z') (hl : dq z.natAbs ≤ 99999) (hl' : dq z'.natAbs ≤ 99999) (hs : s = decide (v < 0)) (hv : v = z + z') (hc : ¬ z'.natAbs ≤ z.natAbs) : Calls Tryz.prog 95 #[.agg #[.bool false, .slice A (dq z.natAbs) c], .agg #[.bool true, .slice A' (dq z'.natAbs) c']] W (RZv W s v) := by
  have h1 := h.zi
  have h2 := h'.zi
  simp only [zi_true, zi_false] at h1 h2
  have ha : v.natAbs = z'.natAbs - z.natAbs := by omega
  have hzi : v = zi true v.natAbs := by simp only [zi_true, zi_false]; omega
  obtain ⟨u, hu, hu0⟩ : ∃ u, cmpI z.natAbs z'.natAbs = u ∧ ¬ 0 ≤ u := ⟨_, rfl, by
    rcases Nat.lt_trichotomy z.natAbs z'.natAbs with h1 | h1 | h1
    · first | (rw [cmpI_lt h1]; decide) | (exfalso; omega)
    · first | (rw [cmpI_eq h1]; decide) | (exfalso; omega)
    · first | (rw [cmpI_gt h1]; decide) | (exfalso; omega)⟩
  have CC : Hid (∀ W', Bel W W' → Calls Tryz.prog 115 #[.slice A (dq z.natAbs) c, .slice A' (dq z'.natAbs) c'] W' (IntPost W' u)) := fun W' hb => rcmp_z (h.1.up hb) (h'.1.up hb) (by omega) (by omega) hu
  have CM : Hid (∀ W', Bel W W' → Calls Tryz.prog 143 #[.slice A' (dq z'.natAbs) c', .slice A (dq z.natAbs) c] W' (RefRz W' v.natAbs)) := fun W' hb => by rw [ha]; exact rSub_any (h'.1.up hb) (h.1.up hb) (by omega) (by omega)
  have CZ : Hid (∀ W' B e, Rn W' B e v.natAbs → Calls Tryz.prog 73 #[.bool true, .slice B (dq v.natAbs) e] W' (RZb W' s B (dq v.natAbs) e v.natAbs)) := fun W' B e hn => rzof_h hn (by rw [hs, sig_of hzi])
  have HS := hide hs
  clear h h' hl hl' hs hv ha hzi h1 h2 hc hu
  have HB := Bel.refl W
  go_enter Tryz.func95, Tryz.ntmps95
  go_wp2_with (first | (go_at_call 115; (with_reducible refine (CC.out _ (((HB.al _).al _).al _)).mono ?_); rintro e w1 ⟨rfl, hbk⟩; (with_reducible (have HP : At w1 W.heap.size [.bool false, .slice A (dq z.natAbs) c] := At.up (((at_new0 _ _ _).al _).al _) hbk; have HQ : At w1 (W.heap.size + 1) [.bool true, .slice A' (dq z'.natAbs) c'] := At.up ((at_new1 _ _ _ _).al _) hbk; have HR : At w1 (W.heap.size + 1 + 1) [.bool false, .slice none 0 0] := At.up (at_new2 _ _ _ _ _) hbk; replace HB := (((HB.al _).al _).al _).up hbk))) | fail)
  go_region_held3 (fun w' => w'.cell? ⟨W.heap.size, 0, none⟩ = some (.bool false) ∧ w'.cell? ⟨W.heap.size, 1, none⟩ = some (.slice A (dq z.natAbs) c) ∧ w'.cell? ⟨W.heap.size + 1, 0, none⟩ = some (.bool true) ∧ w'.cell? ⟨W.heap.size + 1, 1, none⟩ = some (.slice A' (dq z'.natAbs) c'))
    (first | with_reducible exact ⟨HP.dr.c0, HP.dr.c1, HQ.dr.c0, HQ.dr.c1⟩ | with_reducible exact ⟨HP.c0, HP.c1, HQ.c0, HQ.c1⟩ | exact ⟨((HP.far (by omega) _).far (by omega) _).c0, ((HP.far (by omega) _).far (by omega) _).c1, ((HQ.far (by omega) _).far (by omega) _).c0, ((HQ.far (by omega) _).far (by omega) _).c1⟩)
    (first | (go_at_call 143; (with_reducible refine (CM.out _ HB.dr).mono ?_); rintro e w2 ⟨mA, mc, rfl, rm, hbk⟩; (with_reducible (replace HB := HB.dr.up hbk; replace HP := HP.dr.up hbk; replace HQ := HQ.dr.up hbk; replace HR := HR.dr.up hbk))) | (go_at_call 73; (with_reducible refine (CZ.out _ _ _ rm).mono ?_); rintro e w3 ⟨rfl, rn, hbk⟩; (with_reducible (replace HB := HB.up hbk; replace HP := HP.up hbk; replace HQ := HQ.up hbk; replace HR := HR.up hbk)); have hr_0 := HR.c0; have hr_1 := HR.c1; have hr_l := HR.lt; have hr_f0 := HR.f0; have hr_f1 := HR.f1) | fail)
  go_wp2_with fail
  refine bodyPost_ret (v := .agg #[.bool s, .slice mA (dq v.natAbs) mc]) (by simp [results, Tryz.results95, go_sem, hr_0, hr_1]) rfl ?_
  exact rz_two HR rn HS HB (by omega)
theorem rzadd_h (h : Rz W b A c z) (h' : Rz W b' A' c' z') (hl : dq z.natAbs ≤ 99999) (hl' : dq z'.natAbs ≤ 99999) (hs : s = decide (v < 0)) (hv : v = z + z') : Calls Tryz.prog 95 #[.agg #[.bool b, .slice A (dq z.natAbs) c], .agg #[.bool b', .slice A' (dq z'.natAbs) c']] W (RZv W s v) := by
  by_cases hc : z'.natAbs ≤ z.natAbs
  · cases b <;> cases b'
    · exact rzadd_same_false_false h h' hl hl' hs hv
    · exact rzadd_ge_false_true h h' hl hl' hs hv hc
    · exact rzadd_ge_true_false h h' hl hl' hs hv hc
    · exact rzadd_same_true_true h h' hl hl' hs hv
  · cases b <;> cases b'
    · exact rzadd_same_false_false h h' hl hl' hs hv
    · exact rzadd_lt_false_true h h' hl hl' hs hv hc
    · exact rzadd_lt_true_false h h' hl hl' hs hv hc
    · exact rzadd_same_true_true h h' hl hl' hs hv
end
end Go.Proofs.YtfcamfkimnlfgaaGreatDoor
end
