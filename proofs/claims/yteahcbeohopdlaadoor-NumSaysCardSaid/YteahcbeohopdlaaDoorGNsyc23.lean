/- Several texts in one, each with its own sentence and conditions. -/
import Derived.Test.YteahcbeohopdlaaDoorGNsyc22
import Derived.Test.YteahcbeohopdlaaDoorGNsyc20
import Derived.Test.YteahcbeohopdlaaDoorZf
import Derived.Test.YteahcbeohopdlaaDoorGNsyc8
import Derived.Test.YteahcbeohopdlaaDoorGNsyc9
section
/- The document's own integers: ZDiv. Conditions: less than 99999 fours of digits. -/
open Go.RowKit
set_option maxRecDepth 100000
namespace Go.Proofs.YteahcbeohopdlaaDoor
def RzDv (w : World) (q r : Nat) (e : Ending) (w' : World) : Prop := ∃ A c A' c', e = .returned (.tuple #[.slice A (dq q) c, .slice A' (dq r) c']) ∧ Rn w' A c q ∧ Rn w' A' c' r ∧ Hid (Below w.heap.size w w')
def RzD (W : World) (s : Bool) (q r : Nat) (e : Ending) (w' : World) : Prop := ∃ A c A' c', e = .returned (.tuple #[.agg #[.bool s, .slice A (dq q) c], .agg #[.bool false, .slice A' (dq r) c']]) ∧ Rn w' A c q ∧ Rn w' A' c' r ∧ Hid (Below W.heap.size W w')
section
variable {W : World} {b b' : Bool} {A A' : Option Addr} {c c' m n : Nat}
set_option maxHeartbeats 4000000 in
theorem rzdiv_false_false (h : Rn W A c m) (h' : Rn W A' c' n) (hn : 0 < n) (hl : dq m ≤ 99999) (hl' : dq n ≤ 99999) {q r : Nat} (hq : q = m / n) (hr : r = m % n) {s : Bool} (hs : s = (false && decide (0 < q))) :
    Calls Tryd.prog 15 #[.agg #[.bool false, .slice A (dq m) c], .agg #[.bool false, .slice A' (dq n) c']] W (RzD W s q r) := by
  have CD : Hid (∀ W', Bel W W' → Calls Tryd.prog 68 #[.slice A (dq m) c, .slice A' (dq n) c'] W' (RzDv W' q r)) := fun W' hw => by rw [hq, hr]; exact rDiv_any (h.up hw.hid) (h'.up hw.hid) hl hl' hn
  have CZ : Hid (∀ W' B e, Rn W' B e q → Calls Tryd.prog 61 #[.bool false, .slice B (dq q) e] W' (RZb W' s B (dq q) e q)) := fun W' B e hn => rzof_h hn hs
  clear h h' hn hl hl' hq hr hs
  have HB := Bel.refl W
  go_enter Tryd.func15, Tryd.ntmps15
  go_wp2_with (first | (go_at_call 68; (with_reducible refine (CD.out _ ((((HB.al _).al _).al _).al _)).mono ?_); rintro e w1 ⟨B, e1, C, f1, rfl, rq, rr, hbk⟩; have HP : At w1 W.heap.size [.bool false, .slice A (dq m) c] := At.up ((((at_new0 _ _ _).al _).al _).al _) hbk; have HQ : At w1 (W.heap.size + 1) [.bool false, .slice A' (dq n) c'] := At.up (((at_new1 _ _ _ _).al _).al _) hbk; have HR : At w1 (W.heap.size + 1 + 1) [.bool false, .slice none 0 0] := At.up ((at_new2 _ _ _ _ _).al _) hbk; have HS : At w1 (W.heap.size + 1 + 1 + 1) [.bool false, .slice none 0 0] := At.up (at_size (at_new0 _ _ _) (by simp)) hbk; replace HB := ((((HB.al _).al _).al _).al _).up hbk; have hp_0 := HP.c0; have hp_1 := HP.c1; have hp_l := HP.lt; have hq_0 := HQ.c0; have hq_1 := HQ.c1; have hq_l := HQ.lt) | (go_at_call 61; (with_reducible refine (CZ.out _ _ _ rq).mono ?_); rintro e w2 ⟨rfl, rq2, hbk2⟩; replace HB := HB.up hbk2; replace HR := HR.up hbk2; replace HS := HS.up hbk2; replace rr := rr.up hbk2; clear hp_0 hp_1 hp_l hq_0 hq_1 hq_l HP HQ; have hr_0 := HR.c0; have hr_1 := HR.c1; have hr_l := HR.lt; have hr_f0 := HR.f0; have hr_f1 := HR.f1; have hs_0 := HS.c0; have hs_1 := HS.c1; have hs_l := HS.lt; have hs_f0 := HS.f0; have hs_f1 := HS.f1) | fail)
  refine bodyPost_ret (v := .tuple #[.agg #[.bool s, .slice B (dq q) e1], .agg #[.bool false, .slice C (dq r) f1]]) (by simp [results, Tryd.results15, go_sem, hr_0, hr_1, hs_0, hs_1]) rfl ?_
  have l2 : W.heap.size ≤ W.heap.size + 1 + 1 := by omega
  have l3 : W.heap.size ≤ W.heap.size + 1 + 1 + 1 := by omega
  have HS2 := (HS.far (q := W.heap.size + 1 + 1) (i := 0) (by omega) (.bool s)).far (q := W.heap.size + 1 + 1) (i := 1) (by omega) (.slice B (dq q) e1)
  exact ⟨B, e1, C, f1, rfl, (rq2.put2 HR).put2 HS2, (rr.put2 HR).put2 HS2, ((((Below.setCell HB l2 _).setCell l2 _).setCell l3 _).setCell l3 _)⟩
set_option maxHeartbeats 4000000 in
theorem rzdiv_false_true (h : Rn W A c m) (h' : Rn W A' c' n) (hn : 0 < n) (hl : dq m ≤ 99999) (hl' : dq n ≤ 99999) {q r : Nat} (hq : q = m / n) (hr : r = m % n) {s : Bool} (hs : s = (true && decide (0 < q))) :
    Calls Tryd.prog 15 #[.agg #[.bool false, .slice A (dq m) c], .agg #[.bool true, .slice A' (dq n) c']] W (RzD W s q r) := by
  have CD : Hid (∀ W', Bel W W' → Calls Tryd.prog 68 #[.slice A (dq m) c, .slice A' (dq n) c'] W' (RzDv W' q r)) := fun W' hw => by rw [hq, hr]; exact rDiv_any (h.up hw.hid) (h'.up hw.hid) hl hl' hn
  have CZ : Hid (∀ W' B e, Rn W' B e q → Calls Tryd.prog 61 #[.bool true, .slice B (dq q) e] W' (RZb W' s B (dq q) e q)) := fun W' B e hn => rzof_h hn hs
  clear h h' hn hl hl' hq hr hs
  have HB := Bel.refl W
  go_enter Tryd.func15, Tryd.ntmps15
  go_wp2_with (first | (go_at_call 68; (with_reducible refine (CD.out _ ((((HB.al _).al _).al _).al _)).mono ?_); rintro e w1 ⟨B, e1, C, f1, rfl, rq, rr, hbk⟩; have HP : At w1 W.heap.size [.bool false, .slice A (dq m) c] := At.up ((((at_new0 _ _ _).al _).al _).al _) hbk; have HQ : At w1 (W.heap.size + 1) [.bool true, .slice A' (dq n) c'] := At.up (((at_new1 _ _ _ _).al _).al _) hbk; have HR : At w1 (W.heap.size + 1 + 1) [.bool false, .slice none 0 0] := At.up ((at_new2 _ _ _ _ _).al _) hbk; have HS : At w1 (W.heap.size + 1 + 1 + 1) [.bool false, .slice none 0 0] := At.up (at_size (at_new0 _ _ _) (by simp)) hbk; replace HB := ((((HB.al _).al _).al _).al _).up hbk; have hp_0 := HP.c0; have hp_1 := HP.c1; have hp_l := HP.lt; have hq_0 := HQ.c0; have hq_1 := HQ.c1; have hq_l := HQ.lt) | (go_at_call 61; (with_reducible refine (CZ.out _ _ _ rq).mono ?_); rintro e w2 ⟨rfl, rq2, hbk2⟩; replace HB := HB.up hbk2; replace HR := HR.up hbk2; replace HS := HS.up hbk2; replace rr := rr.up hbk2; clear hp_0 hp_1 hp_l hq_0 hq_1 hq_l HP HQ; have hr_0 := HR.c0; have hr_1 := HR.c1; have hr_l := HR.lt; have hr_f0 := HR.f0; have hr_f1 := HR.f1; have hs_0 := HS.c0; have hs_1 := HS.c1; have hs_l := HS.lt; have hs_f0 := HS.f0; have hs_f1 := HS.f1) | fail)
  refine bodyPost_ret (v := .tuple #[.agg #[.bool s, .slice B (dq q) e1], .agg #[.bool false, .slice C (dq r) f1]]) (by simp [results, Tryd.results15, go_sem, hr_0, hr_1, hs_0, hs_1]) rfl ?_
  have l2 : W.heap.size ≤ W.heap.size + 1 + 1 := by omega
  have l3 : W.heap.size ≤ W.heap.size + 1 + 1 + 1 := by omega
  have HS2 := (HS.far (q := W.heap.size + 1 + 1) (i := 0) (by omega) (.bool s)).far (q := W.heap.size + 1 + 1) (i := 1) (by omega) (.slice B (dq q) e1)
  exact ⟨B, e1, C, f1, rfl, (rq2.put2 HR).put2 HS2, (rr.put2 HR).put2 HS2, ((((Below.setCell HB l2 _).setCell l2 _).setCell l3 _).setCell l3 _)⟩
set_option maxHeartbeats 4000000 in
theorem rzdiv_true_false (h : Rn W A c m) (h' : Rn W A' c' n) (hn : 0 < n) (hl : dq m ≤ 99999) (hl' : dq n ≤ 99999) {q r : Nat} (hq : q = m / n) (hr : r = m % n) (hc : r = 0) {s : Bool} (hs : s = (true && decide (0 < q))) :
    Calls Tryd.prog 15 #[.agg #[.bool true, .slice A (dq m) c], .agg #[.bool false, .slice A' (dq n) c']] W (RzD W s q r) := by
  have CD : Hid (∀ W', Bel W W' → Calls Tryd.prog 68 #[.slice A (dq m) c, .slice A' (dq n) c'] W' (RzDv W' q r)) := fun W' hw => by rw [hq, hr]; exact rDiv_any (h.up hw.hid) (h'.up hw.hid) hl hl' hn
  have CZ : Hid (∀ W' B e, Rn W' B e q → Calls Tryd.prog 61 #[.bool true, .slice B (dq q) e] W' (RZb W' s B (dq q) e q)) := fun W' B e hn => rzof_h hn hs
  have g0 : dq r = 0 := by have := dq_pos (n := r); omega
  have g1 : decide ((0 : Int) < (dq r : Int)) = false := decide_eq_false (by omega)
  have g2 : ¬ (0 : Int) < (dq r : Int) := by omega
  have g3 : ¬ 0 < dq r := by omega
  clear g0
  clear h h' hn hl hl' hq hr hc hs
  have HB := Bel.refl W
  go_enter Tryd.func15, Tryd.ntmps15
  go_wp2_with (first | (go_at_call 68; (with_reducible refine (CD.out _ ((((HB.al _).al _).al _).al _)).mono ?_); rintro e w1 ⟨B, e1, C, f1, rfl, rq, rr, hbk⟩; have HP : At w1 W.heap.size [.bool true, .slice A (dq m) c] := At.up ((((at_new0 _ _ _).al _).al _).al _) hbk; have HQ : At w1 (W.heap.size + 1) [.bool false, .slice A' (dq n) c'] := At.up (((at_new1 _ _ _ _).al _).al _) hbk; have HR : At w1 (W.heap.size + 1 + 1) [.bool false, .slice none 0 0] := At.up ((at_new2 _ _ _ _ _).al _) hbk; have HS : At w1 (W.heap.size + 1 + 1 + 1) [.bool false, .slice none 0 0] := At.up (at_size (at_new0 _ _ _) (by simp)) hbk; replace HB := ((((HB.al _).al _).al _).al _).up hbk; have hp_0 := HP.c0; have hp_1 := HP.c1; have hp_l := HP.lt; have hq_0 := HQ.c0; have hq_1 := HQ.c1; have hq_l := HQ.lt) | (go_at_call 61; (with_reducible refine (CZ.out _ _ _ rq).mono ?_); rintro e w2 ⟨rfl, rq2, hbk2⟩; replace HB := HB.up hbk2; replace HR := HR.up hbk2; replace HS := HS.up hbk2; replace rr := rr.up hbk2; clear hp_0 hp_1 hp_l hq_0 hq_1 hq_l HP HQ; have hr_0 := HR.c0; have hr_1 := HR.c1; have hr_l := HR.lt; have hr_f0 := HR.f0; have hr_f1 := HR.f1; have hs_0 := HS.c0; have hs_1 := HS.c1; have hs_l := HS.lt; have hs_f0 := HS.f0; have hs_f1 := HS.f1) | fail)
  refine bodyPost_ret (v := .tuple #[.agg #[.bool s, .slice B (dq q) e1], .agg #[.bool false, .slice C (dq r) f1]]) (by simp [results, Tryd.results15, go_sem, hr_0, hr_1, hs_0, hs_1]) rfl ?_
  have l2 : W.heap.size ≤ W.heap.size + 1 + 1 := by omega
  have l3 : W.heap.size ≤ W.heap.size + 1 + 1 + 1 := by omega
  have HS2 := (HS.far (q := W.heap.size + 1 + 1) (i := 0) (by omega) (.bool s)).far (q := W.heap.size + 1 + 1) (i := 1) (by omega) (.slice B (dq q) e1)
  exact ⟨B, e1, C, f1, rfl, (rq2.put2 HR).put2 HS2, (rr.put2 HR).put2 HS2, ((((Below.setCell HB l2 _).setCell l2 _).setCell l3 _).setCell l3 _)⟩
set_option maxHeartbeats 4000000 in
theorem rzdiv_true_true (h : Rn W A c m) (h' : Rn W A' c' n) (hn : 0 < n) (hl : dq m ≤ 99999) (hl' : dq n ≤ 99999) {q r : Nat} (hq : q = m / n) (hr : r = m % n) (hc : r = 0) {s : Bool} (hs : s = (false && decide (0 < q))) :
    Calls Tryd.prog 15 #[.agg #[.bool true, .slice A (dq m) c], .agg #[.bool true, .slice A' (dq n) c']] W (RzD W s q r) := by
  have CD : Hid (∀ W', Bel W W' → Calls Tryd.prog 68 #[.slice A (dq m) c, .slice A' (dq n) c'] W' (RzDv W' q r)) := fun W' hw => by rw [hq, hr]; exact rDiv_any (h.up hw.hid) (h'.up hw.hid) hl hl' hn
  have CZ : Hid (∀ W' B e, Rn W' B e q → Calls Tryd.prog 61 #[.bool false, .slice B (dq q) e] W' (RZb W' s B (dq q) e q)) := fun W' B e hn => rzof_h hn hs
  have g0 : dq r = 0 := by have := dq_pos (n := r); omega
  have g1 : decide ((0 : Int) < (dq r : Int)) = false := decide_eq_false (by omega)
  have g2 : ¬ (0 : Int) < (dq r : Int) := by omega
  have g3 : ¬ 0 < dq r := by omega
  clear g0
  clear h h' hn hl hl' hq hr hc hs
  have HB := Bel.refl W
  go_enter Tryd.func15, Tryd.ntmps15
  go_wp2_with (first | (go_at_call 68; (with_reducible refine (CD.out _ ((((HB.al _).al _).al _).al _)).mono ?_); rintro e w1 ⟨B, e1, C, f1, rfl, rq, rr, hbk⟩; have HP : At w1 W.heap.size [.bool true, .slice A (dq m) c] := At.up ((((at_new0 _ _ _).al _).al _).al _) hbk; have HQ : At w1 (W.heap.size + 1) [.bool true, .slice A' (dq n) c'] := At.up (((at_new1 _ _ _ _).al _).al _) hbk; have HR : At w1 (W.heap.size + 1 + 1) [.bool false, .slice none 0 0] := At.up ((at_new2 _ _ _ _ _).al _) hbk; have HS : At w1 (W.heap.size + 1 + 1 + 1) [.bool false, .slice none 0 0] := At.up (at_size (at_new0 _ _ _) (by simp)) hbk; replace HB := ((((HB.al _).al _).al _).al _).up hbk; have hp_0 := HP.c0; have hp_1 := HP.c1; have hp_l := HP.lt; have hq_0 := HQ.c0; have hq_1 := HQ.c1; have hq_l := HQ.lt) | (go_at_call 61; (with_reducible refine (CZ.out _ _ _ rq).mono ?_); rintro e w2 ⟨rfl, rq2, hbk2⟩; replace HB := HB.up hbk2; replace HR := HR.up hbk2; replace HS := HS.up hbk2; replace rr := rr.up hbk2; clear hp_0 hp_1 hp_l hq_0 hq_1 hq_l HP HQ; have hr_0 := HR.c0; have hr_1 := HR.c1; have hr_l := HR.lt; have hr_f0 := HR.f0; have hr_f1 := HR.f1; have hs_0 := HS.c0; have hs_1 := HS.c1; have hs_l := HS.lt; have hs_f0 := HS.f0; have hs_f1 := HS.f1) | fail)
  refine bodyPost_ret (v := .tuple #[.agg #[.bool s, .slice B (dq q) e1], .agg #[.bool false, .slice C (dq r) f1]]) (by simp [results, Tryd.results15, go_sem, hr_0, hr_1, hs_0, hs_1]) rfl ?_
  have l2 : W.heap.size ≤ W.heap.size + 1 + 1 := by omega
  have l3 : W.heap.size ≤ W.heap.size + 1 + 1 + 1 := by omega
  have HS2 := (HS.far (q := W.heap.size + 1 + 1) (i := 0) (by omega) (.bool s)).far (q := W.heap.size + 1 + 1) (i := 1) (by omega) (.slice B (dq q) e1)
  exact ⟨B, e1, C, f1, rfl, (rq2.put2 HR).put2 HS2, (rr.put2 HR).put2 HS2, ((((Below.setCell HB l2 _).setCell l2 _).setCell l3 _).setCell l3 _)⟩
set_option maxHeartbeats 8000000 in
theorem rzdiv_rest_false (h : Rn W A c m) (h' : Rn W A' c' n) (hn : 0 < n) (hl : dq m ≤ 99999) (hl' : dq n ≤ 99999) {q r Q R : Nat} (hq : q = m / n) (hr : r = m % n) (hc : 0 < r) (hQ : Q = q + 1) (hR : R = n - r) {s : Bool} (hs : s = (true && decide (0 < Q))) :
    Calls Tryd.prog 15 #[.agg #[.bool true, .slice A (dq m) c], .agg #[.bool false, .slice A' (dq n) c']] W (RzD W s Q R) := by
  obtain ⟨one, hone⟩ : ∃ x : Nat, x = 1 := ⟨_, rfl⟩
  have dq1 : dq q ≤ 100000 := Nat.le_trans (dq_mono (show q ≤ m by rw [hq]; exact Nat.div_le_self m n)) (by omega)
  have lrn : r ≤ n := by rw [hr]; exact Nat.le_of_lt (Nat.mod_lt _ hn)
  have CD : Hid (∀ W', Bel W W' → Calls Tryd.prog 68 #[.slice A (dq m) c, .slice A' (dq n) c'] W' (RzDv W' q r)) := fun W' hw => by rw [hq, hr]; exact rDiv_any (h.up hw.hid) (h'.up hw.hid) hl hl' hn
  have CS : Hid (∀ W', Calls Tryd.prog 70 #[.int .u64 1] W' (RefRz W' one)) := fun W' => by rw [hone]; exact Small_any (n := 1) (by decide)
  have CA : Hid (∀ W' B e C f, Rn W' B e q → Rn W' C f one → Calls Tryd.prog 69 #[.slice B (dq q) e, .slice C (dq one) f] W' (RefRz W' Q)) := fun W' B e C f h1 h2 => by rw [hQ, ← hone]; exact rAdd_any h1 h2 dq1 (by rw [hone]; exact Nat.le_trans (dq_u64 (by decide)) (by decide))
  have CB : Hid (∀ W' C f, Bel W W' → Rn W' C f r → Calls Tryd.prog 71 #[.slice A' (dq n) c', .slice C (dq r) f] W' (RefRz W' R)) := fun W' C f hw h1 => by rw [hR]; exact rSub_any (h'.up hw.hid) h1 (by omega) lrn
  have CZ : Hid (∀ W' B e, Rn W' B e Q → Calls Tryd.prog 61 #[.bool true, .slice B (dq Q) e] W' (RZb W' s B (dq Q) e Q)) := fun W' B e hn => rzof_h hn hs
  have g0 : 0 < dq r := dq_pos.2 hc
  have g1 : decide ((0 : Int) < (dq r : Int)) = true := decide_eq_true (by omega)
  have g2 : (0 : Int) < (dq r : Int) := by omega
  clear h h' hn hl hl' hq hr hc hs hQ hR hone dq1 lrn
  have HB := Bel.refl W
  go_enter Tryd.func15, Tryd.ntmps15
  go_wp2_with (first | (go_at_call 68; (with_reducible refine (CD.out _ ((((HB.al _).al _).al _).al _)).mono ?_); rintro e w1 ⟨B, e1, C, f1, rfl, rq, rr, hbk⟩; have HP : At w1 W.heap.size [.bool true, .slice A (dq m) c] := At.up ((((at_new0 _ _ _).al _).al _).al _) hbk; have HQ : At w1 (W.heap.size + 1) [.bool false, .slice A' (dq n) c'] := At.up (((at_new1 _ _ _ _).al _).al _) hbk; have HR : At w1 (W.heap.size + 1 + 1) [.bool false, .slice none 0 0] := At.up ((at_new2 _ _ _ _ _).al _) hbk; have HS : At w1 (W.heap.size + 1 + 1 + 1) [.bool false, .slice none 0 0] := At.up (at_size (at_new0 _ _ _) (by simp)) hbk; replace HB := ((((HB.al _).al _).al _).al _).up hbk; have hp_0 := HP.c0; have hp_1 := HP.c1; have hp_l := HP.lt; have hq_0 := HQ.c0; have hq_1 := HQ.c1; have hq_l := HQ.lt) | fail)
  go_region_held3 (fun w' => w'.cell? ⟨W.heap.size + 1, 1, none⟩ = some (.slice A' (dq n) c'))
    (first | with_reducible exact HQ.dr.c1 | with_reducible exact HQ.c1)
    (first | (go_at_call 70; (with_reducible refine (CS.out _).mono ?_); rintro e w2 ⟨D, d1, rfl, ro, hbk⟩; (with_reducible (replace HB := HB.dr.up hbk; replace HP := HP.dr.up hbk; replace HQ := HQ.dr.up hbk; replace HR := HR.dr.up hbk; replace HS := HS.dr.up hbk; replace rq := rq.dr.up hbk; replace rr := rr.dr.up hbk)); clear hp_0 hp_1 hp_l hq_0 hq_1 hq_l; have hp_0 := HP.c0; have hp_1 := HP.c1; have hp_l := HP.lt; have hq_0 := HQ.c0; have hq_1 := HQ.c1; have hq_l := HQ.lt) | (go_at_call 69; (with_reducible refine (CA.out _ _ _ _ _ rq ro).mono ?_); rintro e w3 ⟨D2, d2, rfl, rQ, hbk⟩; (with_reducible (replace HB := HB.up hbk; replace HP := HP.up hbk; replace HQ := HQ.up hbk; replace HR := HR.up hbk; replace HS := HS.up hbk; replace rq := rq.up hbk; replace rr := rr.up hbk)); clear hp_0 hp_1 hp_l hq_0 hq_1 hq_l; have hp_0 := HP.c0; have hp_1 := HP.c1; have hp_l := HP.lt; have hq_0 := HQ.c0; have hq_1 := HQ.c1; have hq_l := HQ.lt) | (go_at_call 71; (with_reducible refine (CB.out _ _ _ HB rr).mono ?_); rintro e w4 ⟨D3, d3, rfl, rR, hbk⟩; (with_reducible (replace HB := HB.up hbk; replace HP := HP.up hbk; replace HQ := HQ.up hbk; replace HR := HR.up hbk; replace HS := HS.up hbk; replace rq := rq.up hbk; replace rr := rr.up hbk; replace rQ := rQ.up hbk)); clear hp_0 hp_1 hp_l hq_0 hq_1 hq_l; have hp_0 := HP.c0; have hp_1 := HP.c1; have hp_l := HP.lt; have hq_0 := HQ.c0; have hq_1 := HQ.c1; have hq_l := HQ.lt) | fail)
  go_wp2_with (first | (go_at_call 61; (with_reducible refine (CZ.out _ _ _ rQ).mono ?_); rintro e w5 ⟨rfl, rq2, hbk2⟩; replace HB := HB.up hbk2; replace HR := HR.up hbk2; replace HS := HS.up hbk2; replace rR := rR.up hbk2; clear hp_0 hp_1 hp_l hq_0 hq_1 hq_l HP HQ; have hr_0 := HR.c0; have hr_1 := HR.c1; have hr_l := HR.lt; have hr_f0 := HR.f0; have hr_f1 := HR.f1; have hs_0 := HS.c0; have hs_1 := HS.c1; have hs_l := HS.lt; have hs_f0 := HS.f0; have hs_f1 := HS.f1) | fail)
  refine bodyPost_ret (v := .tuple #[.agg #[.bool s, .slice D2 (dq Q) d2], .agg #[.bool false, .slice D3 (dq R) d3]]) (by simp [results, Tryd.results15, go_sem, hr_0, hr_1, hs_0, hs_1]) rfl ?_
  have l2 : W.heap.size ≤ W.heap.size + 1 + 1 := by omega
  have l3 : W.heap.size ≤ W.heap.size + 1 + 1 + 1 := by omega
  have HS2 := (HS.far (q := W.heap.size + 1 + 1) (i := 0) (by omega) (.bool s)).far (q := W.heap.size + 1 + 1) (i := 1) (by omega) (.slice D2 (dq Q) d2)
  exact ⟨D2, d2, D3, d3, rfl, (rq2.put2 HR).put2 HS2, (rR.put2 HR).put2 HS2, ((((Below.setCell HB l2 _).setCell l2 _).setCell l3 _).setCell l3 _)⟩
set_option maxHeartbeats 8000000 in
theorem rzdiv_rest_true (h : Rn W A c m) (h' : Rn W A' c' n) (hn : 0 < n) (hl : dq m ≤ 99999) (hl' : dq n ≤ 99999) {q r Q R : Nat} (hq : q = m / n) (hr : r = m % n) (hc : 0 < r) (hQ : Q = q + 1) (hR : R = n - r) {s : Bool} (hs : s = (false && decide (0 < Q))) :
    Calls Tryd.prog 15 #[.agg #[.bool true, .slice A (dq m) c], .agg #[.bool true, .slice A' (dq n) c']] W (RzD W s Q R) := by
  obtain ⟨one, hone⟩ : ∃ x : Nat, x = 1 := ⟨_, rfl⟩
  have dq1 : dq q ≤ 100000 := Nat.le_trans (dq_mono (show q ≤ m by rw [hq]; exact Nat.div_le_self m n)) (by omega)
  have lrn : r ≤ n := by rw [hr]; exact Nat.le_of_lt (Nat.mod_lt _ hn)
  have CD : Hid (∀ W', Bel W W' → Calls Tryd.prog 68 #[.slice A (dq m) c, .slice A' (dq n) c'] W' (RzDv W' q r)) := fun W' hw => by rw [hq, hr]; exact rDiv_any (h.up hw.hid) (h'.up hw.hid) hl hl' hn
  have CS : Hid (∀ W', Calls Tryd.prog 70 #[.int .u64 1] W' (RefRz W' one)) := fun W' => by rw [hone]; exact Small_any (n := 1) (by decide)
  have CA : Hid (∀ W' B e C f, Rn W' B e q → Rn W' C f one → Calls Tryd.prog 69 #[.slice B (dq q) e, .slice C (dq one) f] W' (RefRz W' Q)) := fun W' B e C f h1 h2 => by rw [hQ, ← hone]; exact rAdd_any h1 h2 dq1 (by rw [hone]; exact Nat.le_trans (dq_u64 (by decide)) (by decide))
  have CB : Hid (∀ W' C f, Bel W W' → Rn W' C f r → Calls Tryd.prog 71 #[.slice A' (dq n) c', .slice C (dq r) f] W' (RefRz W' R)) := fun W' C f hw h1 => by rw [hR]; exact rSub_any (h'.up hw.hid) h1 (by omega) lrn
  have CZ : Hid (∀ W' B e, Rn W' B e Q → Calls Tryd.prog 61 #[.bool false, .slice B (dq Q) e] W' (RZb W' s B (dq Q) e Q)) := fun W' B e hn => rzof_h hn hs
  have g0 : 0 < dq r := dq_pos.2 hc
  have g1 : decide ((0 : Int) < (dq r : Int)) = true := decide_eq_true (by omega)
  have g2 : (0 : Int) < (dq r : Int) := by omega
  clear h h' hn hl hl' hq hr hc hs hQ hR hone dq1 lrn
  have HB := Bel.refl W
  go_enter Tryd.func15, Tryd.ntmps15
  go_wp2_with (first | (go_at_call 68; (with_reducible refine (CD.out _ ((((HB.al _).al _).al _).al _)).mono ?_); rintro e w1 ⟨B, e1, C, f1, rfl, rq, rr, hbk⟩; have HP : At w1 W.heap.size [.bool true, .slice A (dq m) c] := At.up ((((at_new0 _ _ _).al _).al _).al _) hbk; have HQ : At w1 (W.heap.size + 1) [.bool true, .slice A' (dq n) c'] := At.up (((at_new1 _ _ _ _).al _).al _) hbk; have HR : At w1 (W.heap.size + 1 + 1) [.bool false, .slice none 0 0] := At.up ((at_new2 _ _ _ _ _).al _) hbk; have HS : At w1 (W.heap.size + 1 + 1 + 1) [.bool false, .slice none 0 0] := At.up (at_size (at_new0 _ _ _) (by simp)) hbk; replace HB := ((((HB.al _).al _).al _).al _).up hbk; have hp_0 := HP.c0; have hp_1 := HP.c1; have hp_l := HP.lt; have hq_0 := HQ.c0; have hq_1 := HQ.c1; have hq_l := HQ.lt) | fail)
  go_region_held3 (fun w' => w'.cell? ⟨W.heap.size + 1, 1, none⟩ = some (.slice A' (dq n) c'))
    (first | with_reducible exact HQ.dr.c1 | with_reducible exact HQ.c1)
    (first | (go_at_call 70; (with_reducible refine (CS.out _).mono ?_); rintro e w2 ⟨D, d1, rfl, ro, hbk⟩; (with_reducible (replace HB := HB.dr.up hbk; replace HP := HP.dr.up hbk; replace HQ := HQ.dr.up hbk; replace HR := HR.dr.up hbk; replace HS := HS.dr.up hbk; replace rq := rq.dr.up hbk; replace rr := rr.dr.up hbk)); clear hp_0 hp_1 hp_l hq_0 hq_1 hq_l; have hp_0 := HP.c0; have hp_1 := HP.c1; have hp_l := HP.lt; have hq_0 := HQ.c0; have hq_1 := HQ.c1; have hq_l := HQ.lt) | (go_at_call 69; (with_reducible refine (CA.out _ _ _ _ _ rq ro).mono ?_); rintro e w3 ⟨D2, d2, rfl, rQ, hbk⟩; (with_reducible (replace HB := HB.up hbk; replace HP := HP.up hbk; replace HQ := HQ.up hbk; replace HR := HR.up hbk; replace HS := HS.up hbk; replace rq := rq.up hbk; replace rr := rr.up hbk)); clear hp_0 hp_1 hp_l hq_0 hq_1 hq_l; have hp_0 := HP.c0; have hp_1 := HP.c1; have hp_l := HP.lt; have hq_0 := HQ.c0; have hq_1 := HQ.c1; have hq_l := HQ.lt) | (go_at_call 71; (with_reducible refine (CB.out _ _ _ HB rr).mono ?_); rintro e w4 ⟨D3, d3, rfl, rR, hbk⟩; (with_reducible (replace HB := HB.up hbk; replace HP := HP.up hbk; replace HQ := HQ.up hbk; replace HR := HR.up hbk; replace HS := HS.up hbk; replace rq := rq.up hbk; replace rr := rr.up hbk; replace rQ := rQ.up hbk)); clear hp_0 hp_1 hp_l hq_0 hq_1 hq_l; have hp_0 := HP.c0; have hp_1 := HP.c1; have hp_l := HP.lt; have hq_0 := HQ.c0; have hq_1 := HQ.c1; have hq_l := HQ.lt) | fail)
  go_wp2_with (first | (go_at_call 61; (with_reducible refine (CZ.out _ _ _ rQ).mono ?_); rintro e w5 ⟨rfl, rq2, hbk2⟩; replace HB := HB.up hbk2; replace HR := HR.up hbk2; replace HS := HS.up hbk2; replace rR := rR.up hbk2; clear hp_0 hp_1 hp_l hq_0 hq_1 hq_l HP HQ; have hr_0 := HR.c0; have hr_1 := HR.c1; have hr_l := HR.lt; have hr_f0 := HR.f0; have hr_f1 := HR.f1; have hs_0 := HS.c0; have hs_1 := HS.c1; have hs_l := HS.lt; have hs_f0 := HS.f0; have hs_f1 := HS.f1) | fail)
  refine bodyPost_ret (v := .tuple #[.agg #[.bool s, .slice D2 (dq Q) d2], .agg #[.bool false, .slice D3 (dq R) d3]]) (by simp [results, Tryd.results15, go_sem, hr_0, hr_1, hs_0, hs_1]) rfl ?_
  have l2 : W.heap.size ≤ W.heap.size + 1 + 1 := by omega
  have l3 : W.heap.size ≤ W.heap.size + 1 + 1 + 1 := by omega
  have HS2 := (HS.far (q := W.heap.size + 1 + 1) (i := 0) (by omega) (.bool s)).far (q := W.heap.size + 1 + 1) (i := 1) (by omega) (.slice D2 (dq Q) d2)
  exact ⟨D2, d2, D3, d3, rfl, (rq2.put2 HR).put2 HS2, (rR.put2 HR).put2 HS2, ((((Below.setCell HB l2 _).setCell l2 _).setCell l3 _).setCell l3 _)⟩
end
end Go.Proofs.YteahcbeohopdlaaDoor
end

section
/- The document's own integers: ZDiv of any two. Conditions: less than 99999 fours of digits. -/
open Go.RowKit
set_option maxRecDepth 100000
namespace Go.Proofs.YteahcbeohopdlaaDoor
section
variable {W : World} {b b' s : Bool} {A A' : Option Addr} {c c' : Nat} {z z' q r : Int}
theorem rzdiv_h (h : Rz W b A c z) (h' : Rz W b' A' c' z') (h0 : z' ≠ 0) (hl : dq z.natAbs ≤ 99999) (hl' : dq z'.natAbs ≤ 99999) (hq : z / z' = q) (hr : z % z' = r) (hs : s = decide (q < 0)) :
    Calls Tryd.prog 15 #[.agg #[.bool b, .slice A (dq z.natAbs) c], .agg #[.bool b', .slice A' (dq z'.natAbs) c']] W (RzD W s q.natAbs r.natAbs) := by
  have e := h.zi
  have e' := h'.zi
  have hn : 0 < z'.natAbs := by omega
  by_cases hc : b = false ∨ z.natAbs % z'.natAbs = 0
  · obtain ⟨e1, e2⟩ := div_plain (b := b) (b' := b') (m := z.natAbs) (k := z'.natAbs) (by omega) hc
    rw [← e, ← e', hq] at e1
    rw [← e, ← e', hr] at e2
    have e3 : q.natAbs = z.natAbs / z'.natAbs := by rw [e1, zi_abs]
    have e4 : r.natAbs = z.natAbs % z'.natAbs := by omega
    have e5 : s = ((b != b') && decide (0 < q.natAbs)) := by rw [hs]; exact sig_of (by rw [e3]; exact e1)
    clear e e'
    cases b with
    | false =>
      cases b' with
      | false => exact rzdiv_false_false h.1 h'.1 hn hl hl' e3 e4 e5
      | true => exact rzdiv_false_true h.1 h'.1 hn hl hl' e3 e4 e5
    | true =>
      have e6 : r.natAbs = 0 := by rcases hc with hc | hc; (· cases hc); (· omega)
      cases b' with
      | false => exact rzdiv_true_false h.1 h'.1 hn hl hl' e3 e4 e6 e5
      | true => exact rzdiv_true_true h.1 h'.1 hn hl hl' e3 e4 e6 e5
  · have hb : b = true := by cases b; (· exact absurd (.inl rfl) hc); (· rfl)
    have hm : z.natAbs % z'.natAbs ≠ 0 := fun g => hc (.inr g)
    subst hb
    obtain ⟨e1, e2⟩ := div_low (b' := b') (m := z.natAbs) (k := z'.natAbs) (by omega) hm
    rw [← e, ← e', hq] at e1
    rw [← e, ← e', hr] at e2
    have e3 : q.natAbs = z.natAbs / z'.natAbs + 1 := by rw [e1, zi_abs]
    have e4 : r.natAbs = z'.natAbs - z.natAbs % z'.natAbs := by omega
    have e5 : s = ((true != b') && decide (0 < q.natAbs)) := by rw [hs]; exact sig_of (by rw [e3]; exact e1)
    clear e e'
    cases b' with
    | false => exact rzdiv_rest_false h.1 h'.1 hn hl hl' rfl rfl (by omega) e3 e4 e5
    | true => exact rzdiv_rest_true h.1 h'.1 hn hl hl' rfl rfl (by omega) e3 e4 e5
end
end Go.Proofs.YteahcbeohopdlaaDoor
end

section
/- The document's own Parse. Conditions: at most 100000 letters. -/
open Go.RowKit
set_option maxRecDepth 100000
namespace Go.Proofs.YteahcbeohopdlaaDoor
def RefParse (w : World) (l : List UInt8) (e : Ending) (w' : World) : Prop :=
  if l.all isDig = true then ∃ A c, e = .returned (.tuple #[.slice A (dq (numL l)) c, .bool (!l.isEmpty)]) ∧ Hid (RN w' w'.heap.size A c (numL l)) ∧ Hid (Below w.heap.size w w')
  else e = .returned (.tuple #[.slice none 0 0, .bool false]) ∧ w = w'
theorem chunk_snoc {s : ByteArray} {i f : Nat} (h : i < s.size) (hf : f ≤ i) : (s.data.toList.take (i + 1)).drop f = (s.data.toList.take i).drop f ++ [s[i]] := by
  rw [take_snoc h, List.drop_append_of_le_length]
  rw [List.length_take, ← size_list]; omega
theorem chunk_lt {l : List UInt8} {i f : Nat} (h : l.all isDig = true) (hi : i - f ≤ 4) : numL ((l.take i).drop f) ≤ 9999 := by
  have h1 := numL_lt ((l.take i).drop f) (by rw [List.all_eq_true]; exact fun c hc => List.all_eq_true.1 h c (List.mem_of_mem_take (List.mem_of_mem_drop hc)))
  have h2 : 10 ^ ((l.take i).drop f).length ≤ 10 ^ 4 := Nat.pow_le_pow_right (by omega) (by rw [List.length_drop, List.length_take]; omega)
  omega
theorem good4_snoc {l : List Nat} {x : Nat} (h : Good4 l) (hx : x < D4) : Good4 (l ++ [x]) := by
  intro y hy
  rcases List.mem_append.1 hy with hy | hy
  · exact h y hy
  · simp at hy; subst hy; exact hx
set_option maxHeartbeats 4000000 in
theorem rParse_yes (s : ByteArray) (w : World) (hs : s.size ≤ 100000) (hall : s.data.toList.all isDig = true) :
    Calls Tryd.prog 75 #[.string s] w (RefParse w s.data.toList) := by
  have HA := hide hall
  obtain ⟨i0, hi0, hz0, hz1, hz2⟩ := info_parts Tryd.infoInt
  have I0 := hide hi0
  have Z0 := hide hz0
  have Z1 := hide hz1
  have Z2 := hide hz2
  clear hi0 hz0 hz1 hz2 hall
  go_enter Tryd.func75, Tryd.ntmps75
  go_wp2
  go_loop [5] (fun iv => ∃ k : Nat, k ≤ s.size ∧ iv = .int .i64 (k : Int)) (fun iv => s.size - (intOf iv).toNat)
  case atStart => exact ⟨0, Nat.zero_le _, rfl⟩
  case round =>
    obtain ⟨k, hk, rfl⟩ := hrel
    by_cases hlt : k < s.size
    · obtain ⟨hd1, hd2⟩ := (dig_iff s[k]).1 (List.all_eq_true.1 HA.out _ (List.getElem_mem (l := s.data.toList) hlt))
      go_wp2
      go_round
      case rel => exact ⟨k + 1, by omega, by go_num⟩
      case measure => simp [intOf]; omega
    · go_wp2_with fail
      go_loopw [4, 6] (fun dv ev wr => ∃ (rem : Nat) (z : Int) (dd : List Nat), rem ≤ s.size ∧ ev = .int .i64 z ∧ (0 < rem → z = rem) ∧ (rem = 0 → z ≤ 0) ∧ -4 ≤ z ∧ dd.length + rem ≤ s.size + 4 ∧ Hid (Good4 dd) ∧ Hid (val D4 dd + D4 ^ dd.length * numL (s.data.toList.take rem) = numL s.data.toList) ∧
          Hid (wr.ownsRow w.heap.size 3 1 dv dd.length (dd.map I64)) ∧ Hid (Below w.heap.size w wr))
        (fun _ ev _ => (intOf ev).toNat)
      case atStart => exact ⟨s.size, (s.size : Int), [], Nat.le_refl _, rfl, fun _ => rfl, fun h => by omega, by omega, by simp, by intro x hx; simp at hx, by unfold Hid; rw [size_list, List.take_length]; simp [val], World.ownsRow_nil _ _ _ _, Below.refl _ _⟩
      case round =>
        obtain ⟨rem, z, dd, hrs, rfl, hz1, hz2, hz3, hlen, hdg, hval, hown, hbel⟩ := hrel
        by_cases h0 : rem = 0
        · have hz0 := hz2 h0
          have HV : Hid (val D4 dd = numL s.data.toList) := by
            have h1 := hval.out
            rw [h0, List.take_zero] at h1
            simpa [Hid, numL] using h1
          obtain ⟨A2, c2, he, hc, hr⟩ := row_rd hown.out
          cases he
          have HR := hide hr
          have hdl2 : dd.length ≤ 300000 := by omega
          clear hz1 hz2 h0
          go_wp2_with (first | (go_at_call 109; go_must (refine (rtrim_post rfl HV.out HR.out hdg.out (by omega) hc).mono ?_); rintro e w2 ⟨rfl, rfl⟩))
          go_ret2
          unfold RefParse
          rw [if_pos HA.out]
          refine ⟨A2, c2, ?_, rn_of rfl HV.out HR.out hdg.out hc, hbel⟩
          rw [← Lib.toList_data]; rfl
        · have hrp : 0 < rem := by omega
          have hzr := hz1 hrp
          subst hzr
          have hf : ∃ f, (f + 4 = rem ∨ (f = 0 ∧ rem < 4)) := by
            rcases Nat.lt_or_ge rem 4 with h | h
            · exact ⟨0, .inr ⟨rfl, h⟩⟩
            · exact ⟨rem - 4, .inl (by omega)⟩
          obtain ⟨f, hf⟩ := hf
          have HF := hide hf
          have hfr : f < rem := by omega
          have HNV : Hid (∀ v, v = numL ((s.data.toList.take rem).drop f) → val D4 (dd ++ [v]) + D4 ^ (dd ++ [v]).length * numL (s.data.toList.take f) = numL s.data.toList) := fun v hv => by
            have h1 := numL_append ((s.data.toList.take rem).take f) ((s.data.toList.take rem).drop f)
            rw [List.take_append_drop, ← hv, List.take_take, Nat.min_eq_left (by omega)] at h1
            have h2 := hval.out
            rw [h1] at h2
            rw [val_snoc, List.length_append, List.length_singleton, Nat.pow_succ, ← h2]
            have h3 : numL (s.data.toList.take f) * 10 ^ ((s.data.toList.take rem).drop f).length = D4 * numL (s.data.toList.take f) := by
              rcases HF.out with h | ⟨h, _⟩
              · have : ((s.data.toList.take rem).drop f).length = 4 := by rw [List.length_drop, List.length_take, ← size_list]; omega
                rw [this, Nat.mul_comm]; rfl
              · rw [h, List.take_zero]; simp [numL]
            rw [h3]
            generalize D4 ^ dd.length = P
            rw [Nat.mul_add, Nat.mul_assoc]; omega
          have HB : Hid (∀ (W : World) (u : Value), Below w.heap.size w W → w.heap.size ≤ (W.alloc (.cells #[u] 3)).heap.size) := fun W u hb => by have := hb.size; simp; omega
          have H63 : Hid (dd.length + 1 ≤ maxLen) := by simp only [maxLen, Hid]; omega
          have hdl2 : dd.length ≤ 300000 := by omega
          clear h0 hz1 hz2
          rcases hf with hfa | ⟨rfl, hfa⟩
          · subst hfa
            go_wp2_with fail
            go_loopw [7, 9] (fun nv iv wr2 => ∃ i v : Nat, f ≤ i ∧ i ≤ f + 4 ∧ nv = .int .i64 (v : Int) ∧ iv = .int .i64 (i : Int) ∧ v ≤ 9999 ∧ Hid (v = numL ((s.data.toList.take i).drop f)) ∧ wr2 = wr)
              (fun _ iv _ => f + 4 - (intOf iv).toNat)
            case atStart => exact ⟨f, 0, Nat.le_refl _, by omega, rfl, by first | rfl | go_num, by omega, by unfold Hid; rw [List.drop_of_length_le (by rw [List.length_take]; omega)]; rfl, rfl⟩
            case round =>
              obtain ⟨i, v, hfi, hie, rfl, rfl, hv9, hv, rfl⟩ := hrel
              by_cases hlt2 : i < f + 4
              · have his : i < s.size := by omega
                have hdi := List.all_eq_true.1 HA.out _ (List.getElem_mem (l := s.data.toList) his)
                obtain ⟨hd1, hd2⟩ := (dig_iff s[i]).1 hdi
                have HSN : Hid (numL ((s.data.toList.take (i + 1)).drop f) = v * 10 + (s[i].toNat - 48)) := by
                  unfold Hid
                  rw [chunk_snoc his hfi, numL_snoc, ← hv.out]
                have H99 : Hid (v * 10 + (s[i].toNat - 48) ≤ 9999) := by
                  unfold Hid
                  rw [← HSN.out]
                  exact chunk_lt HA.out (by omega)
                clear hdi
                go_wp2
                go_roundw
                case rel => exact ⟨i + 1, v * 10 + (s[i].toNat - 48), by omega, by omega, congrArg (Value.int .i64) (show _ = (((v * 10 + (s[i].toNat - 48) : Nat)) : Int) by omega), by go_num, H99.out, HSN.out.symm, by first | rfl | trivial⟩
                case measure => simp [intOf]; omega
              · obtain rfl : i = f + 4 := by omega
                have HN := hide (HNV.out v hv.out)
                have HB2 := hide (HB.out wr (.int .i64 (v : Int)) hbel.out)
                go_wp2_with (first | (at_builtin; go_must (refine wpList_append_own _ rfl (.tmp 50) (.tmp 52) 30 rfl w.heap.size 3 i0 (.int .i64 0) 1 8 Tryd.underlying30 I0.out Z0.out Z1.out Z2.out rfl (by decide) _ _ _ rfl (hown.out.alloc _) ⟨wr.heap.size, 0, none⟩ 1 1 [.int .i64 (v : Int)] rfl rfl (cell_one_new _ _ _) (by intro u hu; simp at hu; subst hu; rfl) H63.out (by omega) HB2.out ?_; intro v2 w3 hown' hgrow hnil)))
                go_roundw
                case rel =>
                  refine ⟨f, _, dd ++ [v], by omega, rfl, by omega, by omega, by omega, by rw [List.length_append, List.length_singleton]; omega, ?_, HN, ?_, app_below hown.out hbel.out (Nat.le_refl _) hgrow⟩
                  · exact good4_snoc hdg.out (by rw [D4_eq]; omega)
                  · unfold Hid; rw [List.length_append, List.map_append]; exact hown'
                case measure => simp [intOf]; omega
          · have hrem := hfa
            go_wp2_with fail
            go_loopw [7, 9] (fun nv iv wr2 => ∃ i v : Nat, 0 ≤ i ∧ i ≤ rem ∧ nv = .int .i64 (v : Int) ∧ iv = .int .i64 (i : Int) ∧ v ≤ 9999 ∧ Hid (v = numL ((s.data.toList.take i).drop 0)) ∧ wr2 = wr)
              (fun _ iv _ => rem - (intOf iv).toNat)
            case atStart => exact ⟨0, 0, Nat.le_refl _, by omega, rfl, by first | rfl | go_num, by omega, by unfold Hid; rw [List.drop_of_length_le (by rw [List.length_take]; omega)]; rfl, rfl⟩
            case round =>
              obtain ⟨i, v, hfi, hie, rfl, rfl, hv9, hv, rfl⟩ := hrel
              by_cases hlt2 : i < rem
              · have his : i < s.size := by omega
                have hdi := List.all_eq_true.1 HA.out _ (List.getElem_mem (l := s.data.toList) his)
                obtain ⟨hd1, hd2⟩ := (dig_iff s[i]).1 hdi
                have HSN : Hid (numL ((s.data.toList.take (i + 1)).drop 0) = v * 10 + (s[i].toNat - 48)) := by
                  unfold Hid
                  rw [chunk_snoc his hfi, numL_snoc, ← hv.out]
                have H99 : Hid (v * 10 + (s[i].toNat - 48) ≤ 9999) := by
                  unfold Hid
                  rw [← HSN.out]
                  exact chunk_lt HA.out (by omega)
                clear hdi
                go_wp2
                go_roundw
                case rel => exact ⟨i + 1, v * 10 + (s[i].toNat - 48), by omega, by omega, congrArg (Value.int .i64) (show _ = (((v * 10 + (s[i].toNat - 48) : Nat)) : Int) by omega), by go_num, H99.out, HSN.out.symm, by first | rfl | trivial⟩
                case measure => simp [intOf]; omega
              · obtain rfl : i = rem := by omega
                have HN := hide (HNV.out v hv.out)
                have HB2 := hide (HB.out wr (.int .i64 (v : Int)) hbel.out)
                go_wp2_with (first | (at_builtin; go_must (refine wpList_append_own _ rfl (.tmp 50) (.tmp 52) 30 rfl w.heap.size 3 i0 (.int .i64 0) 1 8 Tryd.underlying30 I0.out Z0.out Z1.out Z2.out rfl (by decide) _ _ _ rfl (hown.out.alloc _) ⟨wr.heap.size, 0, none⟩ 1 1 [.int .i64 (v : Int)] rfl rfl (cell_one_new _ _ _) (by intro u hu; simp at hu; subst hu; rfl) H63.out (by omega) HB2.out ?_; intro v2 w3 hown' hgrow hnil)))
                go_roundw
                case rel =>
                  refine ⟨0, _, dd ++ [v], by omega, rfl, by omega, by omega, by omega, by rw [List.length_append, List.length_singleton]; omega, ?_, HN, ?_, app_below hown.out hbel.out (Nat.le_refl _) hgrow⟩
                  · exact good4_snoc hdg.out (by rw [D4_eq]; omega)
                  · unfold Hid; rw [List.length_append, List.map_append]; exact hown'
                case measure => simp [intOf]; omega
set_option maxHeartbeats 1000000 in
theorem rParse_no (s : ByteArray) (w : World) (hs : s.size ≤ 100000) (hno : ¬ s.data.toList.all isDig = true) :
    Calls Tryd.prog 75 #[.string s] w (RefParse w s.data.toList) := by
  have HA := hide hno
  clear hno
  go_enter Tryd.func75, Tryd.ntmps75
  go_wp2
  go_loop [5] (fun iv => ∃ k : Nat, k ≤ s.size ∧ iv = .int .i64 (k : Int) ∧ Hid ((s.data.toList.take k).all isDig = true)) (fun iv => s.size - (intOf iv).toNat)
  case atStart => exact ⟨0, Nat.zero_le _, rfl, rfl⟩
  case round =>
    obtain ⟨k, hk, rfl, hall⟩ := hrel
    by_cases hlt : k < s.size
    · have HT := hide (take_snoc hlt)
      by_cases hd : isDig s[k] = true
      · obtain ⟨hd1, hd2⟩ := (dig_iff _).1 hd
        have HD := hide hd
        clear hd
        go_wp2
        go_round
        case rel => exact ⟨k + 1, by omega, by go_num, by unfold Hid; rw [HT.out, List.all_append, hall.out]; simp [HD.out]⟩
        case measure => simp [intOf]; omega
      · have hd' : ¬ (48 ≤ (s[k].toNat : Int) ∧ (s[k].toNat : Int) ≤ 57) := fun h => hd ((dig_iff _).2 h)
        clear hd
        by_cases h48 : 48 ≤ (s[k].toNat : Int)
        · have h57 : ¬ (s[k].toNat : Int) ≤ 57 := fun h => hd' ⟨h48, h⟩
          clear hd'
          go_wp2
          go_ret2
          unfold RefParse
          rw [if_neg HA.out]
          exact ⟨rfl, rfl⟩
        · clear hd'
          go_wp2
          go_ret2
          unfold RefParse
          rw [if_neg HA.out]
          exact ⟨rfl, rfl⟩
    · exact absurd (by have h := hall.out; rwa [List.take_of_length_le (by rw [← size_list]; omega)] at h) HA.out
theorem rParse_any (s : ByteArray) (w : World) (hs : s.size ≤ 100000) : Calls Tryd.prog 75 #[.string s] w (RefParse w s.data.toList) := by
  by_cases h : s.data.toList.all isDig = true
  · exact rParse_yes s w hs h
  · exact rParse_no s w hs h
end Go.Proofs.YteahcbeohopdlaaDoor
end
