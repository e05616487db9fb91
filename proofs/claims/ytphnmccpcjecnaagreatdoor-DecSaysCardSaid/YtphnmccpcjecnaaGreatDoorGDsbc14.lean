/- Several texts in one, each with its own sentence and conditions. -/
import Derived.Test.YtphnmccpcjecnaaGreatDoorGDsbc13
import Derived.Test.YtphnmccpcjecnaaGreatDoorGDsbc1
import Derived.Test.YtphnmccpcjecnaaGreatDoorGDsbc7
section
/- The document's own integers: ZSign, ZNeg, ZMul, ZText. Conditions: less than 100000 fours of digits. -/
open Go.RowKit
set_option maxRecDepth 100000
namespace Go.Proofs.YtphnmccpcjecnaaGreatDoor
/-- In world W the document's own integer stands there. -/
def Rz (W : World) (b : Bool) (A : Option Addr) (c : Nat) (z : Int) : Prop := Rn W A c z.natAbs ∧ Hid (b = decide (z < 0))
theorem Rz.up {W W' : World} {b : Bool} {A : Option Addr} {c : Nat} {z : Int} (h : Rz W b A c z) (hb : Hid (Below W.heap.size W W')) : Rz W' b A c z := ⟨h.1.up hb, h.2⟩
theorem Rz.al {W : World} {b : Bool} {A : Option Addr} {c : Nat} {z : Int} (h : Rz W b A c z) (o : Obj) : Rz (W.alloc o) b A c z := ⟨h.1.al o, h.2⟩
theorem Rz.dr {W : World} {b : Bool} {A : Option Addr} {c : Nat} {z : Int} (h : Rz W b A c z) : Rz W.drew b A c z := h
theorem Rz.zi {W : World} {b : Bool} {A : Option Addr} {c : Nat} {z : Int} (h : Rz W b A c z) : z = zi b z.natAbs := by rw [h.2.out]; exact zi_dec z
def RZv (W : World) (s : Bool) (z : Int) (e : Ending) (w' : World) : Prop := ∃ A c, e = .returned (.agg #[.bool s, .slice A (dq z.natAbs) c]) ∧ Rz w' s A c z ∧ Hid (Below W.heap.size W w')
def RefRz (W : World) (m : Nat) (e : Ending) (w' : World) : Prop := ∃ A c, e = .returned (.slice A (dq m) c) ∧ Rn w' A c m ∧ Hid (Below W.heap.size W w')
section
variable {W : World} {b b' s : Bool} {A A' : Option Addr} {c c' : Nat} {z z' v : Int}
theorem rzsign_h (h : Rz W b A c z) (hv : z.sign = v) : Calls Tryz.prog 130 #[.agg #[.bool b, .slice A (dq z.natAbs) c]] W (IntPost W v) := by
  subst hv
  rcases Int.lt_trichotomy z 0 with h1 | h1 | h1
  · have hb : b = true := by rw [h.2.out]; exact decide_eq_true h1
    subst hb
    have HS : Hid (z.sign = -1) := Int.sign_eq_neg_one_of_neg h1
    clear h h1
    go_enter Tryz.func130, Tryz.ntmps130
    go_wp2
    go_ret
    exact ⟨by rw [HS.out]; rfl, (Below.refl _ _).alloc (Nat.le_refl _) _⟩
  · have hb : b = false := by rw [h.2.out]; exact decide_eq_false (by omega)
    subst hb
    have HS : Hid (z.sign = 0) := by rw [h1]; rfl
    obtain ⟨k, hk⟩ : ∃ k, k = dq z.natAbs := ⟨_, rfl⟩
    have hk0 : k = 0 := by rw [hk, h1]; exact dq_zero
    rw [← hk]
    subst hk0
    clear h h1 hk
    go_enter Tryz.func130, Tryz.ntmps130
    go_wp2
    go_ret
    exact ⟨by rw [HS.out]; rfl, (Below.refl _ _).alloc (Nat.le_refl _) _⟩
  · have hb : b = false := by rw [h.2.out]; exact decide_eq_false (by omega)
    subst hb
    have HS : Hid (z.sign = 1) := Int.sign_eq_one_of_pos h1
    have hq : 0 < dq z.natAbs := dq_pos.2 (by omega)
    clear h h1
    go_enter Tryz.func130, Tryz.ntmps130
    go_wp2
    go_ret
    exact ⟨by rw [HS.out]; rfl, (Below.refl _ _).alloc (Nat.le_refl _) _⟩
theorem rz_two {w0 w2 : World} {p : Nat} {b0 : Bool} {B0 : Option Addr} {k0 d0 : Nat} {A : Option Addr} {c : Nat} (hp : At w2 p [.bool b0, .slice B0 k0 d0]) (h : Rn w2 A c z.natAbs) (hs : Hid (s = decide (z < 0))) (hb : Bel w0 w2) (hq : w0.heap.size ≤ p) :
    RZv w0 s z (.returned (.agg #[.bool s, .slice A (dq z.natAbs) c])) ((w2.setCell ⟨p, 0, none⟩ (.bool s)).setCell ⟨p, 1, none⟩ (.slice A (dq z.natAbs) c)) :=
  ⟨A, c, rfl, ⟨h.put2 hp, hs⟩, (Below.setCell hb hq _).setCell hq _⟩
theorem sig_of {nb : Bool} {v : Int} (h : v = zi nb v.natAbs) : decide (v < 0) = (nb && decide (0 < v.natAbs)) := zsig h
set_option maxHeartbeats 1000000 in
theorem rzneg_true (h : Rz W true A c z) (hs : s = decide (v < 0)) (hv : v = -z) : Calls Tryz.prog 129 #[.agg #[.bool true, .slice A (dq z.natAbs) c]] W (RZv W s v) := by
  have ha : z.natAbs = v.natAbs := by omega
  have hzi : v = zi false v.natAbs := by have h1 := h.zi; unfold zi at *; simp at *; omega
  have CZ : Hid (∀ W', Bel W W' → Calls Tryz.prog 57 #[.bool false, .slice A (dq z.natAbs) c] W' (RZb W' s A (dq z.natAbs) c z.natAbs)) := fun W' hb => rzof_h (h.1.up hb) (by rw [hs, sig_of hzi, ha])
  have HA := hide ha
  have HS := hide hs
  clear h hs hv ha hzi
  have HB := Bel.refl W
  go_enter Tryz.func129, Tryz.ntmps129
  go_wp2_with (first | (go_at_call 57; (with_reducible refine (CZ.out _ ((HB.al _).al _)).mono ?_); rintro e w1 ⟨rfl, rn, hbk⟩; (with_reducible (have HR : At w1 (W.heap.size + 1) [.bool false, .slice none 0 0] := At.up (at_new1 _ _ _ _) hbk; replace HB := ((HB.al _).al _).up hbk)); have hr_0 := HR.c0; have hr_1 := HR.c1; have hr_l := HR.lt; have hr_f0 := HR.f0; have hr_f1 := HR.f1) | fail)
  refine bodyPost_ret (v := .agg #[.bool s, .slice A (dq z.natAbs) c]) (by simp [results, Tryz.results129, go_sem, hr_0, hr_1]) rfl ?_
  have h1 := HA.out
  rw [h1] at rn ⊢
  exact rz_two HR rn HS HB (by omega)
set_option maxHeartbeats 1000000 in
theorem rzneg_false (h : Rz W false A c z) (hs : s = decide (v < 0)) (hv : v = -z) : Calls Tryz.prog 129 #[.agg #[.bool false, .slice A (dq z.natAbs) c]] W (RZv W s v) := by
  have ha : z.natAbs = v.natAbs := by omega
  have hzi : v = zi true v.natAbs := by have h1 := h.zi; unfold zi at *; simp at *; omega
  have CZ : Hid (∀ W', Bel W W' → Calls Tryz.prog 57 #[.bool true, .slice A (dq z.natAbs) c] W' (RZb W' s A (dq z.natAbs) c z.natAbs)) := fun W' hb => rzof_h (h.1.up hb) (by rw [hs, sig_of hzi, ha])
  have HA := hide ha
  have HS := hide hs
  clear h hs hv ha hzi
  have HB := Bel.refl W
  go_enter Tryz.func129, Tryz.ntmps129
  go_wp2_with (first | (go_at_call 57; (with_reducible refine (CZ.out _ ((HB.al _).al _)).mono ?_); rintro e w1 ⟨rfl, rn, hbk⟩; (with_reducible (have HR : At w1 (W.heap.size + 1) [.bool false, .slice none 0 0] := At.up (at_new1 _ _ _ _) hbk; replace HB := ((HB.al _).al _).up hbk)); have hr_0 := HR.c0; have hr_1 := HR.c1; have hr_l := HR.lt; have hr_f0 := HR.f0; have hr_f1 := HR.f1) | fail)
  refine bodyPost_ret (v := .agg #[.bool s, .slice A (dq z.natAbs) c]) (by simp [results, Tryz.results129, go_sem, hr_0, hr_1]) rfl ?_
  have h1 := HA.out
  rw [h1] at rn ⊢
  exact rz_two HR rn HS HB (by omega)
theorem rzneg_h (h : Rz W b A c z) (hs : s = decide (v < 0)) (hv : v = -z) : Calls Tryz.prog 129 #[.agg #[.bool b, .slice A (dq z.natAbs) c]] W (RZv W s v) := by
  cases b
  · exact rzneg_false h hs hv
  · exact rzneg_true h hs hv
set_option maxHeartbeats 2000000 in
theorem rzmul_true_true (h : Rz W true A c z) (h' : Rz W true A' c' z') (hl : dq z.natAbs ≤ 99999) (hl' : dq z'.natAbs ≤ 99999) (hs : s = decide (v < 0)) (hv : v = z * z') : Calls Tryz.prog 106 #[.agg #[.bool true, .slice A (dq z.natAbs) c], .agg #[.bool true, .slice A' (dq z'.natAbs) c']] W (RZv W s v) := by
  have ha : v.natAbs = z.natAbs * z'.natAbs := by rw [hv, Int.natAbs_mul]
  have hzi : v = zi false v.natAbs := by
    rw [ha]
    have h1 := h.zi
    have h2 := h'.zi
    simp only [zi_true, zi_false] at h1 h2 ⊢
    rw [hv, Int.natCast_mul]
    generalize (z.natAbs : Int) = x at h1 ⊢
    generalize (z'.natAbs : Int) = y at h2 ⊢
    rw [h1, h2]
    all_goals first | rw [Int.neg_mul_neg] | rw [Int.neg_mul] | rw [Int.mul_neg]
  have CM : Hid (∀ W', Bel W W' → Calls Tryz.prog 87 #[.slice A (dq z.natAbs) c, .slice A' (dq z'.natAbs) c'] W' (RefRz W' v.natAbs)) := fun W' hb => by rw [ha]; exact rMul_any (h.1.up hb) (h'.1.up hb) (by omega) (by omega)
  have CZ : Hid (∀ W' B e, Rn W' B e v.natAbs → Calls Tryz.prog 57 #[.bool false, .slice B (dq v.natAbs) e] W' (RZb W' s B (dq v.natAbs) e v.natAbs)) := fun W' B e hn => rzof_h hn (by rw [hs, sig_of hzi])
  have HS := hide hs
  clear h h' hl hl' hs hv ha hzi
  have HB := Bel.refl W
  go_enter Tryz.func106, Tryz.ntmps106
  go_wp2_with fail
  go_region_held3 (fun w' => w'.cell? ⟨W.heap.size, 0, none⟩ = some (.bool true) ∧ w'.cell? ⟨W.heap.size, 1, none⟩ = some (.slice A (dq z.natAbs) c) ∧ w'.cell? ⟨W.heap.size + 1, 0, none⟩ = some (.bool true) ∧ w'.cell? ⟨W.heap.size + 1, 1, none⟩ = some (.slice A' (dq z'.natAbs) c'))
    (first | with_reducible exact ⟨(((at_new0 _ _ _).al _).al _).dr.c0, (((at_new0 _ _ _).al _).al _).dr.c1, ((at_new1 _ _ _ _).al _).dr.c0, ((at_new1 _ _ _ _).al _).dr.c1⟩ | with_reducible exact ⟨HP.c0, HP.c1, HQ.c0, HQ.c1⟩ | exact ⟨((HP.far (by omega) _).far (by omega) _).c0, ((HP.far (by omega) _).far (by omega) _).c1, ((HQ.far (by omega) _).far (by omega) _).c0, ((HQ.far (by omega) _).far (by omega) _).c1⟩)
    (first | (go_at_call 87; (with_reducible refine (CM.out _ (((HB.al _).al _).al _).dr).mono ?_); rintro e w1 ⟨mA, mc, rfl, rm, hbk⟩; (with_reducible (have HP : At w1 W.heap.size [.bool true, .slice A (dq z.natAbs) c] := At.up (((at_new0 _ _ _).al _).al _).dr hbk; have HQ : At w1 (W.heap.size + 1) [.bool true, .slice A' (dq z'.natAbs) c'] := At.up ((at_new1 _ _ _ _).al _).dr hbk; have HR : At w1 (W.heap.size + 1 + 1) [.bool false, .slice none 0 0] := At.up (at_new2 _ _ _ _ _).dr hbk; replace HB := ((((HB.al _).al _).al _).dr).up hbk))) | (go_at_call 57; (with_reducible refine (CZ.out _ _ _ rm).mono ?_); rintro e w2 ⟨rfl, rn, hbk⟩; (with_reducible (replace HB := HB.up hbk; replace HP := HP.up hbk; replace HQ := HQ.up hbk; replace HR := HR.up hbk)); have hr_0 := HR.c0; have hr_1 := HR.c1; have hr_l := HR.lt; have hr_f0 := HR.f0; have hr_f1 := HR.f1) | fail)
  go_wp2_with fail
  refine bodyPost_ret (v := .agg #[.bool s, .slice mA (dq v.natAbs) mc]) (by simp [results, Tryz.results106, go_sem, hr_0, hr_1]) rfl ?_
  exact rz_two HR rn HS HB (by omega)
set_option maxHeartbeats 2000000 in
theorem rzmul_true_false (h : Rz W true A c z) (h' : Rz W false A' c' z') (hl : dq z.natAbs ≤ 99999) (hl' : dq z'.natAbs ≤ 99999) (hs : s = decide (v < 0)) (hv : v = z * z') : Calls Tryz.prog 106 #[.agg #[.bool true, .slice A (dq z.natAbs) c], .agg #[.bool false, .slice A' (dq z'.natAbs) c']] W (RZv W s v) := by
  have ha : v.natAbs = z.natAbs * z'.natAbs := by rw [hv, Int.natAbs_mul]
  have hzi : v = zi true v.natAbs := by
    rw [ha]
    have h1 := h.zi
    have h2 := h'.zi
    simp only [zi_true, zi_false] at h1 h2 ⊢
    rw [hv, Int.natCast_mul]
    generalize (z.natAbs : Int) = x at h1 ⊢
    generalize (z'.natAbs : Int) = y at h2 ⊢
    rw [h1, h2]
    all_goals first | rw [Int.neg_mul_neg] | rw [Int.neg_mul] | rw [Int.mul_neg]
  have CM : Hid (∀ W', Bel W W' → Calls Tryz.prog 87 #[.slice A (dq z.natAbs) c, .slice A' (dq z'.natAbs) c'] W' (RefRz W' v.natAbs)) := fun W' hb => by rw [ha]; exact rMul_any (h.1.up hb) (h'.1.up hb) (by omega) (by omega)
  have CZ : Hid (∀ W' B e, Rn W' B e v.natAbs → Calls Tryz.prog 57 #[.bool true, .slice B (dq v.natAbs) e] W' (RZb W' s B (dq v.natAbs) e v.natAbs)) := fun W' B e hn => rzof_h hn (by rw [hs, sig_of hzi])
  have HS := hide hs
  clear h h' hl hl' hs hv ha hzi
  have HB := Bel.refl W
  go_enter Tryz.func106, Tryz.ntmps106
  go_wp2_with fail
  go_region_held3 (fun w' => w'.cell? ⟨W.heap.size, 0, none⟩ = some (.bool true) ∧ w'.cell? ⟨W.heap.size, 1, none⟩ = some (.slice A (dq z.natAbs) c) ∧ w'.cell? ⟨W.heap.size + 1, 0, none⟩ = some (.bool false) ∧ w'.cell? ⟨W.heap.size + 1, 1, none⟩ = some (.slice A' (dq z'.natAbs) c'))
    (first | with_reducible exact ⟨(((at_new0 _ _ _).al _).al _).dr.c0, (((at_new0 _ _ _).al _).al _).dr.c1, ((at_new1 _ _ _ _).al _).dr.c0, ((at_new1 _ _ _ _).al _).dr.c1⟩ | with_reducible exact ⟨HP.c0, HP.c1, HQ.c0, HQ.c1⟩ | exact ⟨((HP.far (by omega) _).far (by omega) _).c0, ((HP.far (by omega) _).far (by omega) _).c1, ((HQ.far (by omega) _).far (by omega) _).c0, ((HQ.far (by omega) _).far (by omega) _).c1⟩)
    (first | (go_at_call 87; (with_reducible refine (CM.out _ (((HB.al _).al _).al _).dr).mono ?_); rintro e w1 ⟨mA, mc, rfl, rm, hbk⟩; (with_reducible (have HP : At w1 W.heap.size [.bool true, .slice A (dq z.natAbs) c] := At.up (((at_new0 _ _ _).al _).al _).dr hbk; have HQ : At w1 (W.heap.size + 1) [.bool false, .slice A' (dq z'.natAbs) c'] := At.up ((at_new1 _ _ _ _).al _).dr hbk; have HR : At w1 (W.heap.size + 1 + 1) [.bool false, .slice none 0 0] := At.up (at_new2 _ _ _ _ _).dr hbk; replace HB := ((((HB.al _).al _).al _).dr).up hbk))) | (go_at_call 57; (with_reducible refine (CZ.out _ _ _ rm).mono ?_); rintro e w2 ⟨rfl, rn, hbk⟩; (with_reducible (replace HB := HB.up hbk; replace HP := HP.up hbk; replace HQ := HQ.up hbk; replace HR := HR.up hbk)); have hr_0 := HR.c0; have hr_1 := HR.c1; have hr_l := HR.lt; have hr_f0 := HR.f0; have hr_f1 := HR.f1) | fail)
  go_wp2_with fail
  refine bodyPost_ret (v := .agg #[.bool s, .slice mA (dq v.natAbs) mc]) (by simp [results, Tryz.results106, go_sem, hr_0, hr_1]) rfl ?_
  exact rz_two HR rn HS HB (by omega)
set_option maxHeartbeats 2000000 in
theorem rzmul_false_true (h : Rz W false A c z) (h' : Rz W true A' c' z') (hl : dq z.natAbs ≤ 99999) (hl' : dq z'.natAbs ≤ 99999) (hs : s = decide (v < 0)) (hv : v = z * z') : Calls Tryz.prog 106 #[.agg #[.bool false, .slice A (dq z.natAbs) c], .agg #[.bool true, .slice A' (dq z'.natAbs) c']] W (RZv W s v) := by
  have ha : v.natAbs = z.natAbs * z'.natAbs := by rw [hv, Int.natAbs_mul]
  have hzi : v = zi true v.natAbs := by
    rw [ha]
    have h1 := h.zi
    have h2 := h'.zi
    simp only [zi_true, zi_false] at h1 h2 ⊢
    rw [hv, Int.natCast_mul]
    generalize (z.natAbs : Int) = x at h1 ⊢
    generalize (z'.natAbs : Int) = y at h2 ⊢
    rw [h1, h2]
    all_goals first | rw [Int.neg_mul_neg] | rw [Int.neg_mul] | rw [Int.mul_neg]
  have CM : Hid (∀ W', Bel W W' → Calls Tryz.prog 87 #[.slice A (dq z.natAbs) c, .slice A' (dq z'.natAbs) c'] W' (RefRz W' v.natAbs)) := fun W' hb => by rw [ha]; exact rMul_any (h.1.up hb) (h'.1.up hb) (by omega) (by omega)
  have CZ : Hid (∀ W' B e, Rn W' B e v.natAbs → Calls Tryz.prog 57 #[.bool true, .slice B (dq v.natAbs) e] W' (RZb W' s B (dq v.natAbs) e v.natAbs)) := fun W' B e hn => rzof_h hn (by rw [hs, sig_of hzi])
  have HS := hide hs
  clear h h' hl hl' hs hv ha hzi
  have HB := Bel.refl W
  go_enter Tryz.func106, Tryz.ntmps106
  go_wp2_with fail
  go_region_held3 (fun w' => w'.cell? ⟨W.heap.size, 0, none⟩ = some (.bool false) ∧ w'.cell? ⟨W.heap.size, 1, none⟩ = some (.slice A (dq z.natAbs) c) ∧ w'.cell? ⟨W.heap.size + 1, 0, none⟩ = some (.bool true) ∧ w'.cell? ⟨W.heap.size + 1, 1, none⟩ = some (.slice A' (dq z'.natAbs) c'))
    (first | with_reducible exact ⟨(((at_new0 _ _ _).al _).al _).dr.c0, (((at_new0 _ _ _).al _).al _).dr.c1, ((at_new1 _ _ _ _).al _).dr.c0, ((at_new1 _ _ _ _).al _).dr.c1⟩ | with_reducible exact ⟨HP.c0, HP.c1, HQ.c0, HQ.c1⟩ | exact ⟨((HP.far (by omega) _).far (by omega) _).c0, ((HP.far (by omega) _).far (by omega) _).c1, ((HQ.far (by omega) _).far (by omega) _).c0, ((HQ.far (by omega) _).far (by omega) _).c1⟩)
    (first | (go_at_call 87; (with_reducible refine (CM.out _ (((HB.al _).al _).al _).dr).mono ?_); rintro e w1 ⟨mA, mc, rfl, rm, hbk⟩; (with_reducible (have HP : At w1 W.heap.size [.bool false, .slice A (dq z.natAbs) c] := At.up (((at_new0 _ _ _).al _).al _).dr hbk; have HQ : At w1 (W.heap.size + 1) [.bool true, .slice A' (dq z'.natAbs) c'] := At.up ((at_new1 _ _ _ _).al _).dr hbk; have HR : At w1 (W.heap.size + 1 + 1) [.bool false, .slice none 0 0] := At.up (at_new2 _ _ _ _ _).dr hbk; replace HB := ((((HB.al _).al _).al _).dr).up hbk))) | (go_at_call 57; (with_reducible refine (CZ.out _ _ _ rm).mono ?_); rintro e w2 ⟨rfl, rn, hbk⟩; (with_reducible (replace HB := HB.up hbk; replace HP := HP.up hbk; replace HQ := HQ.up hbk; replace HR := HR.up hbk)); have hr_0 := HR.c0; have hr_1 := HR.c1; have hr_l := HR.lt; have hr_f0 := HR.f0; have hr_f1 := HR.f1) | fail)
  go_wp2_with fail
  refine bodyPost_ret (v := .agg #[.bool s, .slice mA (dq v.natAbs) mc]) (by simp [results, Tryz.results106, go_sem, hr_0, hr_1]) rfl ?_
  exact rz_two HR rn HS HB (by omega)
set_option maxHeartbeats 2000000 in
theorem rzmul_false_false (h : Rz W false A c z) (h' : Rz W false A' c' z') (hl : dq z.natAbs ≤ 99999) (hl' : dq z'.natAbs ≤ 99999) (hs : s = decide (v < 0)) (hv : v = z * z') : Calls Tryz.prog 106 #[.agg #[.bool false, .slice A (dq z.natAbs) c], .agg #[.bool false, .slice A' (dq z'.natAbs) c']] W (RZv W s v) := by
  have ha : v.natAbs = z.natAbs * z'.natAbs := by rw [hv, Int.natAbs_mul]
  have hzi : v = zi false v.natAbs := by
    rw [ha]
    have h1 := h.zi
    have h2 := h'.zi
    simp only [zi_true, zi_false] at h1 h2 ⊢
    rw [hv, Int.natCast_mul]
    generalize (z.natAbs : Int) = x at h1 ⊢
    generalize (z'.natAbs : Int) = y at h2 ⊢
    rw [h1, h2]
    all_goals first | rw [Int.neg_mul_neg] | rw [Int.neg_mul] | rw [Int.mul_neg]
  have CM : Hid (∀ W', Bel W W' → Calls Tryz.prog 87 #[.slice A (dq z.natAbs) c, .slice A' (dq z'.natAbs) c'] W' (RefRz W' v.natAbs)) := fun W' hb => by rw [ha]; exact rMul_any (h.1.up hb) (h'.1.up hb) (by omega) (by omega)
  have CZ : Hid (∀ W' B e, Rn W' B e v.natAbs → Calls Tryz.prog 57 #[.bool false, .slice B (dq v.natAbs) e] W' (RZb W' s B (dq v.natAbs) e v.natAbs)) := fun W' B e hn => rzof_h hn (by rw [hs, sig_of hzi])
  have HS := hide hs
  clear h h' hl hl' hs hv ha hzi
  have HB := Bel.refl W
  go_enter Tryz.func106, Tryz.ntmps106
  go_wp2_with fail
  go_region_held3 (fun w' => w'.cell? ⟨W.heap.size, 0, none⟩ = some (.bool false) ∧ w'.cell? ⟨W.heap.size, 1, none⟩ = some (.slice A (dq z.natAbs) c) ∧ w'.cell? ⟨W.heap.size + 1, 0, none⟩ = some (.bool false) ∧ w'.cell? ⟨W.heap.size + 1, 1, none⟩ = some (.slice A' (dq z'.natAbs) c'))
    (first | with_reducible exact ⟨(((at_new0 _ _ _).al _).al _).dr.c0, (((at_new0 _ _ _).al _).al _).dr.c1, ((at_new1 _ _ _ _).al _).dr.c0, ((at_new1 _ _ _ _).al _).dr.c1⟩ | with_reducible exact ⟨HP.c0, HP.c1, HQ.c0, HQ.c1⟩ | exact ⟨((HP.far (by omega) _).far (by omega) _).c0, ((HP.far (by omega) _).far (by omega) _).c1, ((HQ.far (by omega) _).far (by omega) _).c0, ((HQ.far (by omega) _).far (by omega) _).c1⟩)
    (first | (go_at_call 87; (with_reducible refine (CM.out _ (((HB.al _).al _).al _).dr).mono ?_); rintro e w1 ⟨mA, mc, rfl, rm, hbk⟩; (with_reducible (have HP : At w1 W.heap.size [.bool false, .slice A (dq z.natAbs) c] := At.up (((at_new0 _ _ _).al _).al _).dr hbk; have HQ : At w1 (W.heap.size + 1) [.bool false, .slice A' (dq z'.natAbs) c'] := At.up ((at_new1 _ _ _ _).al _).dr hbk; have HR : At w1 (W.heap.size + 1 + 1) [.bool false, .slice none 0 0] := At.up (at_new2 _ _ _ _ _).dr hbk; replace HB := ((((HB.al _).al _).al _).dr).up hbk))) | (go_at_call 57; (with_reducible refine (CZ.out _ _ _ rm).mono ?_); rintro e w2 ⟨rfl, rn, hbk⟩; (with_reducible (replace HB := HB.up hbk; replace HP := HP.up hbk; replace HQ := HQ.up hbk; replace HR := HR.up hbk)); have hr_0 := HR.c0; have hr_1 := HR.c1; have hr_l := HR.lt; have hr_f0 := HR.f0; have hr_f1 := HR.f1) | fail)
  go_wp2_with fail
  refine bodyPost_ret (v := .agg #[.bool s, .slice mA (dq v.natAbs) mc]) (by simp [results, Tryz.results106, go_sem, hr_0, hr_1]) rfl ?_
  exact rz_two HR rn HS HB (by omega)
theorem rzmul_h (h : Rz W b A c z) (h' : Rz W b' A' c' z') (hl : dq z.natAbs ≤ 99999) (hl' : dq z'.natAbs ≤ 99999) (hs : s = decide (v < 0)) (hv : v = z * z') : Calls Tryz.prog 106 #[.agg #[.bool b, .slice A (dq z.natAbs) c], .agg #[.bool b', .slice A' (dq z'.natAbs) c']] W (RZv W s v) := by
  cases b <;> cases b'
  · exact rzmul_false_false h h' hl hl' hs hv
  · exact rzmul_false_true h h' hl hl' hs hv
  · exact rzmul_true_false h h' hl hl' hs hv
  · exact rzmul_true_true h h' hl hl' hs hv
end
end Go.Proofs.YtphnmccpcjecnaaGreatDoor
end

section
/- The document's own Parse. Conditions: at most 100000 letters. -/
open Go.RowKit
set_option maxRecDepth 100000
namespace Go.Proofs.YtphnmccpcjecnaaGreatDoor
def RefParse (w : World) (l : List UInt8) (e : Ending) (w' : World) : Prop :=
  if l.all isDig = true then ∃ A c, e = .returned (.tuple #[.slice A (dq (numL l)) c, .bool (!l.isEmpty)]) ∧ Hid (RN w' w'.heap.size A c (numL l)) ∧ Hid (Below w.heap.size w w')
  else e = .returned (.tuple #[.slice none 0 0, .bool false]) ∧ w = w'
theorem chunk_snoc {s : ByteArray} {i f : Nat} (h : i < s.size) (hf : f ≤ i) : (s.data.toList.take (i + 1)).drop f = (s.data.toList.take i).drop f ++ [s[i]] := by
  rw [take_snoc h, List.drop_append_of_le_length]
  rw [List.length_take, ← size_list]; omega
theorem chunk_lt {l : List UInt8} {i f : Nat} (h : l.all isDig = true) (hi : i - f ≤ 4) : numL ((l.take i).drop f) ≤ 9999 := by
  have h1 := numL_lt ((l.take i).drop f) (by rw [List.all_eq_true]; exact fun c hc => List.all_eq_true.1 h c (List.mem_of_mem_take (List.mem_of_mem_drop hc)))
  have h2 : 10 ^ ((l.take i).drop f).length ≤ 10 ^ 4 := Nat.pow_le_pow_right (by omega) (by rw [List.length_drop, List.length_take]; omega)
  omega
theorem good4_snoc {l : List Nat} {x : Nat} (h : Good4 l) (hx : x < D4) : Good4 (l ++ [x]) := by
  intro y hy
  rcases List.mem_append.1 hy with hy | hy
  · exact h y hy
  · simp at hy; subst hy; exact hx
set_option maxHeartbeats 4000000 in
theorem rParse_yes (s : ByteArray) (w : World) (hs : s.size ≤ 100000) (hall : s.data.toList.all isDig = true) :
    Calls Tryz.prog 47 #[.string s] w (RefParse w s.data.toList) := by
  have HA := hide hall
  obtain ⟨i0, hi0, hz0, hz1, hz2⟩ := info_parts Tryz.infoInt
  have I0 := hide hi0
  have Z0 := hide hz0
  have Z1 := hide hz1
  have Z2 := hide hz2
  clear hi0 hz0 hz1 hz2 hall
  go_enter Tryz.func47, Tryz.ntmps47
  go_wp2
  go_loop [5] (fun iv => ∃ k : Nat, k ≤ s.size ∧ iv = .int .i64 (k : Int)) (fun iv => s.size - (intOf iv).toNat)
  case atStart => exact ⟨0, Nat.zero_le _, rfl⟩
  case round =>
    obtain ⟨k, hk, rfl⟩ := hrel
    by_cases hlt : k < s.size
    · obtain ⟨hd1, hd2⟩ := (dig_iff s[k]).1 (List.all_eq_true.1 HA.out _ (List.getElem_mem (l := s.data.toList) hlt))
      go_wp2
      go_round
      case rel => exact ⟨k + 1, by omega, by go_num⟩
      case measure => simp [intOf]; omega
    · go_wp2_with fail
      go_loopw [4, 6] (fun dv ev wr => ∃ (rem : Nat) (z : Int) (dd : List Nat), rem ≤ s.size ∧ ev = .int .i64 z ∧ (0 < rem → z = rem) ∧ (rem = 0 → z ≤ 0) ∧ -4 ≤ z ∧ dd.length + rem ≤ s.size + 4 ∧ Hid (Good4 dd) ∧ Hid (val D4 dd + D4 ^ dd.length * numL (s.data.toList.take rem) = numL s.data.toList) ∧
          Hid (wr.ownsRow w.heap.size 3 1 dv dd.length (dd.map I64)) ∧ Hid (Below w.heap.size w wr))
        (fun _ ev _ => (intOf ev).toNat)
      case atStart => exact ⟨s.size, (s.size : Int), [], Nat.le_refl _, rfl, fun _ => rfl, fun h => by omega, by omega, by simp, by intro x hx; simp at hx, by unfold Hid; rw [size_list, List.take_length]; simp [val], World.ownsRow_nil _ _ _ _, Below.refl _ _⟩
      case round =>
        obtain ⟨rem, z, dd, hrs, rfl, hz1, hz2, hz3, hlen, hdg, hval, hown, hbel⟩ := hrel
        by_cases h0 : rem = 0
        · have hz0 := hz2 h0
          have HV : Hid (val D4 dd = numL s.data.toList) := by
            have h1 := hval.out
            rw [h0, List.take_zero] at h1
            simpa [Hid, numL] using h1
          obtain ⟨A2, c2, he, hc, hr⟩ := row_rd hown.out
          cases he
          have HR := hide hr
          have hdl2 : dd.length ≤ 300000 := by omega
          clear hz1 hz2 h0
          go_wp2_with (first | (go_at_call 95; go_must (refine (rtrim_post rfl HV.out HR.out hdg.out (by omega) hc).mono ?_); rintro e w2 ⟨rfl, rfl⟩))
          go_ret2
          unfold RefParse
          rw [if_pos HA.out]
          refine ⟨A2, c2, ?_, rn_of rfl HV.out HR.out hdg.out hc, hbel⟩
          rw [← Lib.toList_data]; rfl
        · have hrp : 0 < rem := by omega
          have hzr := hz1 hrp
          subst hzr
          have hf : ∃ f, (f + 4 = rem ∨ (f = 0 ∧ rem < 4)) := by
            rcases Nat.lt_or_ge rem 4 with h | h
            · exact ⟨0, .inr ⟨rfl, h⟩⟩
            · exact ⟨rem - 4, .inl (by omega)⟩
          obtain ⟨f, hf⟩ := hf
          have HF := hide hf
          have hfr : f < rem := by omega
          have HNV : Hid (∀ v, v = numL ((s.data.toList.take rem).drop f) → val D4 (dd ++ [v]) + D4 ^ (dd ++ [v]).length * numL (s.data.toList.take f) = numL s.data.toList) := fun v hv => by
            have h1 := numL_append ((s.data.toList.take rem).take f) ((s.data.toList.take rem).drop f)
            rw [List.take_append_drop, ← hv, List.take_take, Nat.min_eq_left (by omega)] at h1
            have h2 := hval.out
            rw [h1] at h2
            rw [val_snoc, List.length_append, List.length_singleton, Nat.pow_succ, ← h2]
            have h3 : numL (s.data.toList.take f) * 10 ^ ((s.data.toList.take rem).drop f).length = D4 * numL (s.data.toList.take f) := by
              rcases HF.out with h | ⟨h, _⟩
              · have : ((s.data.toList.take rem).drop f).length = 4 := by rw [List.length_drop, List.length_take, ← size_list]; omega
                rw [this, Nat.mul_comm]; rfl
              · rw [h, List.take_zero]; simp [numL]
            rw [h3]
            generalize D4 ^ dd.length = P
            rw [Nat.mul_add, Nat.mul_assoc]; omega
          have HB : Hid (∀ (W : World) (u : Value), Below w.heap.size w W → w.heap.size ≤ (W.alloc (.cells #[u] 3)).heap.size) := fun W u hb => by have := hb.size; simp; omega
          have H63 : Hid (dd.length + 1 ≤ maxLen) := by simp only [maxLen, Hid]; omega
          have hdl2 : dd.length ≤ 300000 := by omega
          clear h0 hz1 hz2
          rcases hf with hfa | ⟨rfl, hfa⟩
          · subst hfa
            go_wp2_with fail
            go_loopw [7, 9] (fun nv iv wr2 => ∃ i v : Nat, f ≤ i ∧ i ≤ f + 4 ∧ nv = .int .i64 (v : Int) ∧ iv = .int .i64 (i : Int) ∧ v ≤ 9999 ∧ Hid (v = numL ((s.data.toList.take i).drop f)) ∧ wr2 = wr)
              (fun _ iv _ => f + 4 - (intOf iv).toNat)
            case atStart => exact ⟨f, 0, Nat.le_refl _, by omega, rfl, by first | rfl | go_num, by omega, by unfold Hid; rw [List.drop_of_length_le (by rw [List.length_take]; omega)]; rfl, rfl⟩
            case round =>
              obtain ⟨i, v, hfi, hie, rfl, rfl, hv9, hv, rfl⟩ := hrel
              by_cases hlt2 : i < f + 4
              · have his : i < s.size := by omega
                have hdi := List.all_eq_true.1 HA.out _ (List.getElem_mem (l := s.data.toList) his)
                obtain ⟨hd1, hd2⟩ := (dig_iff s[i]).1 hdi
                have HSN : Hid (numL ((s.data.toList.take (i + 1)).drop f) = v * 10 + (s[i].toNat - 48)) := by
                  unfold Hid
                  rw [chunk_snoc his hfi, numL_snoc, ← hv.out]
                have H99 : Hid (v * 10 + (s[i].toNat - 48) ≤ 9999) := by
                  unfold Hid
                  rw [← HSN.out]
                  exact chunk_lt HA.out (by omega)
                clear hdi
                go_wp2
                go_roundw
                case rel => exact ⟨i + 1, v * 10 + (s[i].toNat - 48), by omega, by omega, congrArg (Value.int .i64) (show _ = (((v * 10 + (s[i].toNat - 48) : Nat)) : Int) by omega), by go_num, H99.out, HSN.out.symm, by first | rfl | trivial⟩
                case measure => simp [intOf]; omega
              · obtain rfl : i = f + 4 := by omega
                have HN := hide (HNV.out v hv.out)
                have HB2 := hide (HB.out wr (.int .i64 (v : Int)) hbel.out)
                go_wp2_with (first | (at_builtin; go_must (refine wpList_append_own _ rfl (.tmp 50) (.tmp 52) 37 rfl w.heap.size 3 i0 (.int .i64 0) 1 8 Tryz.underlying37 I0.out Z0.out Z1.out Z2.out rfl (by decide) _ _ _ rfl (hown.out.alloc _) ⟨wr.heap.size, 0, none⟩ 1 1 [.int .i64 (v : Int)] rfl rfl (cell_one_new _ _ _) (by intro u hu; simp at hu; subst hu; rfl) H63.out (by omega) HB2.out ?_; intro v2 w3 hown' hgrow hnil)))
                go_roundw
                case rel =>
                  refine ⟨f, _, dd ++ [v], by omega, rfl, by omega, by omega, by omega, by rw [List.length_append, List.length_singleton]; omega, ?_, HN, ?_, app_below hown.out hbel.out (Nat.le_refl _) hgrow⟩
                  · exact good4_snoc hdg.out (by rw [D4_eq]; omega)
                  · unfold Hid; rw [List.length_append, List.map_append]; exact hown'
                case measure => simp [intOf]; omega
          · have hrem := hfa
            go_wp2_with fail
            go_loopw [7, 9] (fun nv iv wr2 => ∃ i v : Nat, 0 ≤ i ∧ i ≤ rem ∧ nv = .int .i64 (v : Int) ∧ iv = .int .i64 (i : Int) ∧ v ≤ 9999 ∧ Hid (v = numL ((s.data.toList.take i).drop 0)) ∧ wr2 = wr)
              (fun _ iv _ => rem - (intOf iv).toNat)
            case atStart => exact ⟨0, 0, Nat.le_refl _, by omega, rfl, by first | rfl | go_num, by omega, by unfold Hid; rw [List.drop_of_length_le (by rw [List.length_take]; omega)]; rfl, rfl⟩
            case round =>
              obtain ⟨i, v, hfi, hie, rfl, rfl, hv9, hv, rfl⟩ := hrel
              by_cases hlt2 : i < rem
              · have his : i < s.size := by omega
                have hdi := List.all_eq_true.1 HA.out _ (List.getElem_mem (l := s.data.toList) his)
                obtain ⟨hd1, hd2⟩ := (dig_iff s[i]).1 hdi
                have HSN : Hid (numL ((s.data.toList.take (i + 1)).drop 0) = v * 10 + (s[i].toNat - 48)) := by
                  unfold Hid
                  rw [chunk_snoc his hfi, numL_snoc, ← hv.out]
                have H99 : Hid (v * 10 + (s[i].toNat - 48) ≤ 9999) := by
                  unfold Hid
                  rw [← HSN.out]
                  exact chunk_lt HA.out (by omega)
                clear hdi
                go_wp2
                go_roundw
                case rel => exact ⟨i + 1, v * 10 + (s[i].toNat - 48), by omega, by omega, congrArg (Value.int .i64) (show _ = (((v * 10 + (s[i].toNat - 48) : Nat)) : Int) by omega), by go_num, H99.out, HSN.out.symm, by first | rfl | trivial⟩
                case measure => simp [intOf]; omega
              · obtain rfl : i = rem := by omega
                have HN := hide (HNV.out v hv.out)
                have HB2 := hide (HB.out wr (.int .i64 (v : Int)) hbel.out)
                go_wp2_with (first | (at_builtin; go_must (refine wpList_append_own _ rfl (.tmp 50) (.tmp 52) 37 rfl w.heap.size 3 i0 (.int .i64 0) 1 8 Tryz.underlying37 I0.out Z0.out Z1.out Z2.out rfl (by decide) _ _ _ rfl (hown.out.alloc _) ⟨wr.heap.size, 0, none⟩ 1 1 [.int .i64 (v : Int)] rfl rfl (cell_one_new _ _ _) (by intro u hu; simp at hu; subst hu; rfl) H63.out (by omega) HB2.out ?_; intro v2 w3 hown' hgrow hnil)))
                go_roundw
                case rel =>
                  refine ⟨0, _, dd ++ [v], by omega, rfl, by omega, by omega, by omega, by rw [List.length_append, List.length_singleton]; omega, ?_, HN, ?_, app_below hown.out hbel.out (Nat.le_refl _) hgrow⟩
                  · exact good4_snoc hdg.out (by rw [D4_eq]; omega)
                  · unfold Hid; rw [List.length_append, List.map_append]; exact hown'
                case measure => simp [intOf]; omega
set_option maxHeartbeats 1000000 in
theorem rParse_no (s : ByteArray) (w : World) (hs : s.size ≤ 100000) (hno : ¬ s.data.toList.all isDig = true) :
    Calls Tryz.prog 47 #[.string s] w (RefParse w s.data.toList) := by
  have HA := hide hno
  clear hno
  go_enter Tryz.func47, Tryz.ntmps47
  go_wp2
  go_loop [5] (fun iv => ∃ k : Nat, k ≤ s.size ∧ iv = .int .i64 (k : Int) ∧ Hid ((s.data.toList.take k).all isDig = true)) (fun iv => s.size - (intOf iv).toNat)
  case atStart => exact ⟨0, Nat.zero_le _, rfl, rfl⟩
  case round =>
    obtain ⟨k, hk, rfl, hall⟩ := hrel
    by_cases hlt : k < s.size
    · have HT := hide (take_snoc hlt)
      by_cases hd : isDig s[k] = true
      · obtain ⟨hd1, hd2⟩ := (dig_iff _).1 hd
        have HD := hide hd
        clear hd
        go_wp2
        go_round
        case rel => exact ⟨k + 1, by omega, by go_num, by unfold Hid; rw [HT.out, List.all_append, hall.out]; simp [HD.out]⟩
        case measure => simp [intOf]; omega
      · have hd' : ¬ (48 ≤ (s[k].toNat : Int) ∧ (s[k].toNat : Int) ≤ 57) := fun h => hd ((dig_iff _).2 h)
        clear hd
        by_cases h48 : 48 ≤ (s[k].toNat : Int)
        · have h57 : ¬ (s[k].toNat : Int) ≤ 57 := fun h => hd' ⟨h48, h⟩
          clear hd'
          go_wp2
          go_ret2
          unfold RefParse
          rw [if_neg HA.out]
          exact ⟨rfl, rfl⟩
        · clear hd'
          go_wp2
          go_ret2
          unfold RefParse
          rw [if_neg HA.out]
          exact ⟨rfl, rfl⟩
    · exact absurd (by have h := hall.out; rwa [List.take_of_length_le (by rw [← size_list]; omega)] at h) HA.out
theorem rParse_any (s : ByteArray) (w : World) (hs : s.size ≤ 100000) : Calls Tryz.prog 47 #[.string s] w (RefParse w s.data.toList) := by
  by_cases h : s.data.toList.all isDig = true
  · exact rParse_yes s w hs h
  · exact rParse_no s w hs h
end Go.Proofs.YtphnmccpcjecnaaGreatDoor
end

section
/- The document's own integers: ZParse. Conditions: texts of at most 99999 letters. -/
open Go.RowKit
set_option maxRecDepth 100000
namespace Go.Proofs.YtphnmccpcjecnaaGreatDoor
def RzY (W : World) (v : Int) (e : Ending) (w' : World) : Prop := ∃ A c, e = .returned (.tuple #[.agg #[.bool (decide (v < 0)), .slice A (dq v.natAbs) c], .bool true]) ∧ Rz w' (decide (v < 0)) A c v ∧ Hid (Below W.heap.size W w')
def RzN (W : World) (e : Ending) (w' : World) : Prop := e = .returned (.tuple #[.agg #[.bool false, .slice none 0 0], .bool false]) ∧ Hid (Below W.heap.size W w')
def RpY (w : World) (v : Nat) (e : Ending) (w' : World) : Prop := ∃ A c, e = .returned (.tuple #[.slice A (dq v) c, .bool true]) ∧ Rn w' A c v ∧ Hid (Below w.heap.size w w')
def RpN (w : World) (e : Ending) (w' : World) : Prop := ∃ A n c, e = .returned (.tuple #[.slice A n c, .bool false]) ∧ Hid (Below w.heap.size w w')
theorem rp_yes (s : ByteArray) (w : World) (hs : s.size ≤ 100000) (h : digB s.data.toList = true) : Calls Tryz.prog 47 #[.string s] w (RpY w (numL s.data.toList)) :=
  (rParse_any s w hs).mono fun e w' h1 => by
    unfold digB at h
    rw [Bool.and_eq_true] at h
    unfold RefParse at h1
    rw [if_pos h.2, h.1] at h1
    obtain ⟨A, c, e1, e2, e3⟩ := h1
    exact ⟨A, c, e1, e2, e3⟩
theorem rp_no (s : ByteArray) (w : World) (hs : s.size ≤ 100000) (h : ¬ digB s.data.toList = true) : Calls Tryz.prog 47 #[.string s] w (RpN w) :=
  (rParse_any s w hs).mono fun e w' h1 => by
    unfold digB at h
    unfold RefParse at h1
    by_cases ha : s.data.toList.all isDig = true
    · rw [if_pos ha] at h1
      have hb : (!s.data.toList.isEmpty) = false := by
        rw [Bool.and_eq_true] at h
        cases hx : (!s.data.toList.isEmpty) with
        | false => rfl
        | true => exact absurd ⟨hx, ha⟩ h
      rw [hb] at h1
      obtain ⟨A, c, e1, e2, e3⟩ := h1
      exact ⟨A, _, c, e1, e3⟩
    · rw [if_neg ha] at h1
      obtain ⟨e1, e2⟩ := h1
      subst e2
      exact ⟨none, 0, 0, e1, Below.refl _ _⟩
section
variable {W : World} {s : ByteArray} {l : List UInt8}
theorem first_is {s : ByteArray} {c : UInt8} {l : List UInt8} (h : s.data.toList = c :: l) (h0 : 0 < s.size) : s[0] = c ∧ (s.extract 1 s.size).data.toList = l := by
  refine ⟨?_, ?_⟩
  · have h1 : s.data.toList[0]? = some s[0] := by
      rw [List.getElem?_eq_getElem (show 0 < s.data.toList.length from h0)]; rfl
    rw [h] at h1
    exact (Option.some.inj h1).symm
  · rw [extract_list, List.take_of_length_le (show s.data.toList.length ≤ s.size from Nat.le_refl _), h]; rfl
end
end Go.Proofs.YtphnmccpcjecnaaGreatDoor
end
