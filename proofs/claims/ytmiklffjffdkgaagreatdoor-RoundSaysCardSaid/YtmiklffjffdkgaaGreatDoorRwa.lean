/- RoundSays' walk over its calls' contracts. No conditions but those. -/
import Derived.Test.YtmiklffjffdkgaaGreatDoorGRwbc34
import Derived.Deep.RegionHeld3
import Derived.Deep.CutRange
open Go.RowKit
set_option maxRecDepth 100000
namespace Go.Proofs.YtmiklffjffdkgaaGreatDoor
/-- What round.Int leaves, and the cells of it. -/
def KI (W : World) (ok : Bool) (t : Int) (u : Bool) (A : Option Addr) (n c : Nat) : Prop := ok = true → u = decide (t < 0) ∧ n = dl t.natAbs ∧ ZA W (decide (t < 0)) A (dl t.natAbs) c t
def DIn (W : World) (er : Int) (t : Int) (e : Ending) (w' : World) : Prop := ∃ u A n c, e = .returned (.tuple #[.agg #[.bool u, .slice A n c], .int .i64 er]) ∧ KI w' (decide (er = 0)) t u A n c ∧ Hid (Below W.heap.size W w')
section
variable {W W' : World} {ok pb u : Bool} {pv ps n c : Nat} {A : Option Addr} {k t : Int}
theorem KN.up (h : KN W ok pb pv ps u A n c k) (hb : Hid (Below W.heap.size W W')) : KN W' ok pb pv ps u A n c k := fun e => ⟨(h e).1, (h e).2.1, (h e).2.2.1, (h e).2.2.2.up hb⟩
theorem KN.al (h : KN W ok pb pv ps u A n c k) (o : Obj) : KN (W.alloc o) ok pb pv ps u A n c k := fun e => ⟨(h e).1, (h e).2.1, (h e).2.2.1, (h e).2.2.2.al o⟩
theorem KN.dr (h : KN W ok pb pv ps u A n c k) : KN W.drew ok pb pv ps u A n c k := fun e => ⟨(h e).1, (h e).2.1, (h e).2.2.1, (h e).2.2.2.dr⟩
theorem KR.up (h : KR W ok pb pv ps u A n c k) (hb : Hid (Below W.heap.size W W')) : KR W' ok pb pv ps u A n c k := fun e => ⟨(h e).1, (h e).2.1, (h e).2.2.1, (h e).2.2.2.up hb⟩
theorem KR.al (h : KR W ok pb pv ps u A n c k) (o : Obj) : KR (W.alloc o) ok pb pv ps u A n c k := fun e => ⟨(h e).1, (h e).2.1, (h e).2.2.1, (h e).2.2.2.al o⟩
theorem KR.dr (h : KR W ok pb pv ps u A n c k) : KR W.drew ok pb pv ps u A n c k := fun e => ⟨(h e).1, (h e).2.1, (h e).2.2.1, (h e).2.2.2.dr⟩
theorem KI.up (h : KI W ok t u A n c) (hb : Hid (Below W.heap.size W W')) : KI W' ok t u A n c := fun e => ⟨(h e).1, (h e).2.1, (h e).2.2.up hb⟩
theorem KI.al (h : KI W ok t u A n c) (o : Obj) : KI (W.alloc o) ok t u A n c := fun e => ⟨(h e).1, (h e).2.1, (h e).2.2.al o⟩
theorem KI.dr (h : KI W ok t u A n c) : KI W.drew ok t u A n c := fun e => ⟨(h e).1, (h e).2.1, (h e).2.2.dr⟩
end
/-- A number goes on through the write of a numeral into a box that is still nought. -/
theorem nm_dbox {w1 : World} {p : Nat} {B : Option Addr} {d n v : Nat} (rn : Nm w1 B n d v) (hr_0 : w1.cell? ⟨p, 0, none⟩ = some (.bool false)) (hr_1 : w1.cell? ⟨p, 1, none⟩ = some (.slice none 0 0)) (hr_2 : w1.cell? ⟨p, 2, none⟩ = some (.int .i64 0)) (u : Bool) (D : Option Addr) (i j : Nat) (k : Int) :
    Nm (((w1.setCell ⟨p, 0, none⟩ (.bool u)).setCell ⟨p, 1, none⟩ (.slice D i j)).setCell ⟨p, 2, none⟩ (.int .i64 k)) B n d v := by
  have r0 := Nm.setn rn hr_0 (by intro x h; cases h) (.bool u)
  have r1 := Nm.setn r0 ((World.cell?_setCell_other _ _ _ _ (by intro e; cases e)).trans hr_1) (by intro x h; cases h) (.slice D i j)
  exact Nm.setn r1 ((World.cell?_setCell_other _ _ _ _ (by intro e; cases e)).trans ((World.cell?_setCell_other _ _ _ _ (by intro e; cases e)).trans hr_2)) (by intro x h; cases h) (.int .i64 k)
set_option maxHeartbeats 64000000 in
theorem rsays_w {ka kb gd g b0 b1 sx pt pg pp : Bool} {A0 A1 A2 : Option Addr} {n0 c0 n1 c1 n2 c2 vt jt vg jg vp jp m2 : Nat} {s0 scale many mode ei et es ep t : Int} {x : Rat} (w : World)
    (CL : Hid (∀ W', Calls Tryz.prog 5 #[.agg #[.bool b1, .slice A1 n1 c1, .slice A2 n2 c2]] W' (BoolR W' false)))
    (CW : Hid (∀ W', Bel w W' → Calls Tryz.prog 6 #[.agg #[.bool b1, .slice A1 n1 c1, .slice A2 n2 c2]] W' (RQm W' sx x.num x.den)))
    (CI : Hid (∀ W', Bel w W' → Calls Tryz.prog 7 #[.agg #[.bool b1, .slice A1 n1 c1, .slice A2 n2 c2], .int .i64 mode] W' (DIn W' ei t)))
    (CT : Hid (∀ W', Bel w W' → Calls Tryz.prog 8 #[.agg #[.bool b1, .slice A1 n1 c1, .slice A2 n2 c2], .int .i64 scale, .int .i64 mode] W' (DPg W' et pt vt jt)))
    (CS : Hid (∀ W', Bel w W' → Calls Tryz.prog 9 #[.agg #[.bool b1, .slice A1 n1 c1, .slice A2 n2 c2], .int .i64 many, .int .i64 mode] W' (DPg W' es pg vg jg)))
    (CP : Hid (∀ W', Bel w W' → Calls Tryz.prog 10 #[.agg #[.bool b1, .slice A1 n1 c1, .slice A2 n2 c2], .agg #[.bool b0, .slice A0 n0 c0, .int .i64 s0], .int .i64 mode] W' (DPg W' ep pp vp jp)))
    (CM : Hid (∀ W', Calls Tryz.prog 11 #[.int .i64 mode] W' (BoolR W' g)))
    (CJ : Hid (∀ W' B e C f, ei = 0 → Rz W' sx B e x.num → Rn W' C f x.den → Calls Tryz.prog 13 #[.agg #[.bool sx, .slice B (dq x.num.natAbs) e, .slice C (dq x.den) f], .int .i64 mode] W' (RZv W' (decide (t < 0)) t)))
    (CZ : Hid (∀ W' B e C f, ei = 0 → ZA W' (decide (t < 0)) B (dl t.natAbs) e t → Rz W' (decide (t < 0)) C f t → Calls Tryz.prog 12 #[.agg #[.bool (decide (t < 0)), .slice B (dl t.natAbs) e], .agg #[.bool (decide (t < 0)), .slice C (dq t.natAbs) f]] W' (BoolR W' true)))
    (CA : Hid (∀ W' B e C f, Rz W' sx B e x.num → Rn W' C f x.den → Calls Tryz.prog 14 #[.agg #[.bool sx, .slice B (dq x.num.natAbs) e, .slice C (dq x.den) f], .int .i64 scale, .int .i64 mode] W' (DTo W' ka pt vt jt)))
    (CB : Hid (∀ W' B e C f, Rz W' sx B e x.num → Rn W' C f x.den → Calls Tryz.prog 15 #[.agg #[.bool sx, .slice B (dq x.num.natAbs) e, .slice C (dq x.den) f], .int .i64 many, .int .i64 mode] W' (DSg W' es pg vg jg)))
    (CG : Hid (∀ W', Bel w W' → Calls Tryz.prog 16 #[.agg #[.bool b0, .slice A0 n0 c0, .int .i64 s0]] W' (BoolR W' gd)))
    (CV : Hid (∀ W', Bel w W' → Calls Tryz.prog 18 #[.slice A0 n0 c0] W' (RefRz W' m2)))
    (CC : Hid (∀ W' B e C f D f', gd = true → Rz W' sx B e x.num → Rn W' C f x.den → Rn W' D f' m2 → Calls Tryz.prog 17 #[.agg #[.bool sx, .slice B (dq x.num.natAbs) e, .slice C (dq x.den) f], .agg #[.bool b0, .slice D (dq m2) f', .int .i64 s0], .int .i64 mode] W' (DTo W' kb pp vp jp)))
    (CD1 : Hid (∀ W' B e C f, ka = true → Nm W' B (dl vt) e vt → Rn W' C f vt → Calls Tryz.prog 19 #[.agg #[.bool pt, .slice B (dl vt) e, .int .i64 (jt : Int)], .agg #[.bool pt, .slice C (dq vt) f, .int .i64 (jt : Int)]] W' (BoolR W' true)))
    (CD2 : Hid (∀ W' B e C f, es = 0 → Nm W' B (dl vg) e vg → Rn W' C f vg → Calls Tryz.prog 19 #[.agg #[.bool pg, .slice B (dl vg) e, .int .i64 (jg : Int)], .agg #[.bool pg, .slice C (dq vg) f, .int .i64 (jg : Int)]] W' (BoolR W' true)))
    (CD3 : Hid (∀ W' B e C f, kb = true → Nm W' B (dl vp) e vp → Rn W' C f vp → Calls Tryz.prog 19 #[.agg #[.bool pp, .slice B (dl vp) e, .int .i64 (jp : Int)], .agg #[.bool pp, .slice C (dq vp) f, .int .i64 (jp : Int)]] W' (BoolR W' true)))
    (hA : decide ((10 : Int) < (n0 : Int)) = false) (hT : (ka = true ∧ et = 0) ∨ (ka = false ∧ et = 1)) (hE : es = 0 ∨ es = 1 ∨ es = 11) (hP : (kb = true ∧ ep = 0) ∨ (kb = false ∧ ep = 1)) (hgd : gd = false → kb = false) (hM : (g = true ∧ ei = 0 ∧ 1 ≤ mode ∧ mode ≤ 7) ∨ (g = false ∧ ei = 1 ∧ ¬ (1 ≤ mode ∧ mode ≤ 7))) :
    Calls Tryz.prog 3 #[.agg #[.bool b1, .slice A1 n1 c1, .slice A2 n2 c2], .int .i64 scale, .int .i64 many, .int .i64 mode, .agg #[.bool b0, .slice A0 n0 c0, .int .i64 s0]] w fun e w' => e = .returned (.bool true) ∧ Below w.heap.size w w' := by
  have HB := Bel.refl w
  go_enter Tryz.func3, Tryz.ntmps3
  go_upto_region 5 with (first | (go_at_call 4; (with_reducible refine (awake5_any _).mono ?_); rintro e w1 ⟨rfl, hbk⟩; (with_reducible (have HR : At w1 w.heap.size [.bool b1, .slice A1 n1 c1, .slice A2 n2 c2] := At.up ((at_new0 _ _ _).al _) hbk; have HS : At w1 (w.heap.size + 1) [.bool b0, .slice A0 n0 c0, .int .i64 s0] := At.up (at_new1 _ _ _ _) hbk; replace HB := ((HB.al _).al _).up hbk)); have hr_0 := HR.c0; have hr_1 := HR.c1; have hr_2 := HR.c2; have hr_l := HR.lt; have hs_0 := HS.c0; have hs_1 := HS.c1; have hs_2 := HS.c2; have hs_l := HS.lt) | (go_at_call 5; (with_reducible refine (CL.out _).mono ?_); rintro e w2 ⟨rfl, hbk⟩; (with_reducible (replace HB := HB.up hbk; replace HR := HR.up hbk; replace HS := HS.up hbk)); clear hr_0 hr_1 hr_2 hr_l hs_0 hs_1 hs_2 hs_l; have hr_0 := HR.c0; have hr_1 := HR.c1; have hr_2 := HR.c2; have hr_l := HR.lt; have hs_0 := HS.c0; have hs_1 := HS.c1; have hs_2 := HS.c2; have hs_l := HS.lt) | fail)
  go_upto_region 10 with (first | (go_at_call 6; (with_reducible refine (CW.out _ HB).mono ?_); rintro e w3 ⟨Dx, ex, Dx', ex', rfl, rx, nx, hbk⟩; (with_reducible (replace HB := HB.up hbk; replace HR := HR.up hbk; replace HS := HS.up hbk)); clear hr_0 hr_1 hr_2 hr_l hs_0 hs_1 hs_2 hs_l; have hr_0 := HR.c0; have hr_1 := HR.c1; have hr_2 := HR.c2; have hr_l := HR.lt; have hs_0 := HS.c0; have hs_1 := HS.c1; have hs_2 := HS.c2; have hs_l := HS.lt) | (go_at_call 7; (with_reducible refine (CI.out _ (HB.al _)).mono ?_); rintro e w4 ⟨ui, Vi, ni', ci', rfl, hi, hbk⟩; (with_reducible (have HX : At w4 w3.heap.size [.bool sx, .slice Dx (dq x.num.natAbs) ex, .slice Dx' (dq x.den) ex'] := At.up (at_new0 _ _ _) hbk; replace HB := (HB.al _).up hbk; replace HR := (HR.al _).up hbk; replace HS := (HS.al _).up hbk; replace rx := (rx.al _).up hbk; replace nx := (nx.al _).up hbk)); clear hr_0 hr_1 hr_2 hr_l hs_0 hs_1 hs_2 hs_l; have hr_0 := HR.c0; have hr_1 := HR.c1; have hr_2 := HR.c2; have hr_l := HR.lt; have hs_0 := HS.c0; have hs_1 := HS.c1; have hs_2 := HS.c2; have hs_l := HS.lt) | (go_at_call 8; (with_reducible refine (CT.out _ (HB.al _)).mono ?_); rintro e w5 ⟨ut, Vt, nt', ct', kt, rfl, ht, hbk⟩; (with_reducible (have HI : At w5 w4.heap.size [.bool ui, .slice Vi ni' ci'] := At.up (at_new0 _ _ _) hbk; replace HB := (HB.al _).up hbk; replace HR := (HR.al _).up hbk; replace HS := (HS.al _).up hbk; replace rx := (rx.al _).up hbk; replace nx := (nx.al _).up hbk; replace HX := (HX.al _).up hbk; replace hi := (hi.al _).up hbk)); clear hr_0 hr_1 hr_2 hr_l hs_0 hs_1 hs_2 hs_l; have hr_0 := HR.c0; have hr_1 := HR.c1; have hr_2 := HR.c2; have hr_l := HR.lt; have hs_0 := HS.c0; have hs_1 := HS.c1; have hs_2 := HS.c2; have hs_l := HS.lt) | (go_at_call 9; (with_reducible refine (CS.out _ (HB.al _)).mono ?_); rintro e w6 ⟨ug, Vg, ng', cg', kg, rfl, hg, hbk⟩; (with_reducible (have HT : At w6 w5.heap.size [.bool ut, .slice Vt nt' ct', .int .i64 kt] := At.up (at_new0 _ _ _) hbk; replace HB := (HB.al _).up hbk; replace HR := (HR.al _).up hbk; replace HS := (HS.al _).up hbk; replace rx := (rx.al _).up hbk; replace nx := (nx.al _).up hbk; replace HX := (HX.al _).up hbk; replace HI := (HI.al _).up hbk; replace hi := (hi.al _).up hbk; replace ht := (ht.al _).up hbk)); clear hr_0 hr_1 hr_2 hr_l hs_0 hs_1 hs_2 hs_l; have hr_0 := HR.c0; have hr_1 := HR.c1; have hr_2 := HR.c2; have hr_l := HR.lt; have hs_0 := HS.c0; have hs_1 := HS.c1; have hs_2 := HS.c2; have hs_l := HS.lt) | (go_at_call 10; (with_reducible refine (CP.out _ (HB.al _)).mono ?_); rintro e w7 ⟨up, Vp, np', cp', kp, rfl, hp, hbk⟩; (with_reducible (have HG : At w7 w6.heap.size [.bool ug, .slice Vg ng' cg', .int .i64 kg] := At.up (at_new0 _ _ _) hbk; replace HB := (HB.al _).up hbk; replace HR := (HR.al _).up hbk; replace HS := (HS.al _).up hbk; replace rx := (rx.al _).up hbk; replace nx := (nx.al _).up hbk; replace HX := (HX.al _).up hbk; replace HI := (HI.al _).up hbk; replace HT := (HT.al _).up hbk; replace hi := (hi.al _).up hbk; replace ht := (ht.al _).up hbk; replace hg := (hg.al _).up hbk)); clear hr_0 hr_1 hr_2 hr_l hs_0 hs_1 hs_2 hs_l) | fail)
  refine wp_named ?_
  intro W8 hW8
  replace HB : Bel w W8 := by rw [hW8]; exact HB.al _
  replace HR : At W8 w.heap.size [.bool b1, .slice A1 n1 c1, .slice A2 n2 c2] := by rw [hW8]; exact HR.al _
  replace HS : At W8 (w.heap.size + 1) [.bool b0, .slice A0 n0 c0, .int .i64 s0] := by rw [hW8]; exact HS.al _
  replace rx : Rz W8 sx Dx ex x.num := by rw [hW8]; exact rx.al _
  replace nx : Rn W8 Dx' ex' x.den := by rw [hW8]; exact nx.al _
  replace HX : At W8 w3.heap.size [.bool sx, .slice Dx (dq x.num.natAbs) ex, .slice Dx' (dq x.den) ex'] := by rw [hW8]; exact HX.al _
  replace HI : At W8 w4.heap.size [.bool ui, .slice Vi ni' ci'] := by rw [hW8]; exact HI.al _
  replace HT : At W8 w5.heap.size [.bool ut, .slice Vt nt' ct', .int .i64 kt] := by rw [hW8]; exact HT.al _
  replace HG : At W8 w6.heap.size [.bool ug, .slice Vg ng' cg', .int .i64 kg] := by rw [hW8]; exact HG.al _
  replace hi : KI W8 (decide (ei = 0)) t ui Vi ni' ci' := by rw [hW8]; exact hi.al _
  replace ht : KN W8 (decide (et = 0)) pt vt jt ut Vt nt' ct' kt := by rw [hW8]; exact ht.al _
  replace hg : KN W8 (decide (es = 0)) pg vg jg ug Vg ng' cg' kg := by rw [hW8]; exact hg.al _
  replace hp : KN W8 (decide (ep = 0)) pp vp jp up Vp np' cp' kp := by rw [hW8]; exact hp.al _
  have HP : At W8 w7.heap.size [.bool up, .slice Vp np' cp', .int .i64 kp] := by rw [hW8]; exact at_new0 _ _ _
  obtain ⟨qr, hqr⟩ : ∃ q, q = w.heap.size := ⟨_, rfl⟩
  obtain ⟨qs, hqs⟩ : ∃ q, q = w.heap.size + 1 := ⟨_, rfl⟩
  obtain ⟨qx, hqx⟩ : ∃ q, q = w3.heap.size := ⟨_, rfl⟩
  obtain ⟨qi, hqi⟩ : ∃ q, q = w4.heap.size := ⟨_, rfl⟩
  obtain ⟨qt, hqt⟩ : ∃ q, q = w5.heap.size := ⟨_, rfl⟩
  obtain ⟨qg, hqg⟩ : ∃ q, q = w6.heap.size := ⟨_, rfl⟩
  obtain ⟨qp, hqp⟩ : ∃ q, q = w7.heap.size := ⟨_, rfl⟩
  rw [← hqr] at HR
  rw [← hqs] at HS
  rw [← hqx] at HX
  rw [← hqi] at HI
  rw [← hqt] at HT
  rw [← hqg] at HG
  rw [← hqp] at HP
  rw [← hqs, ← hqr, ← hqx, ← hqi, ← hqt, ← hqg, ← hqp]
  clear hW8 hqr hqs hqx hqi hqt hqg hqp CL CW CI CT CS CP hA
  go_cut [102] from 67 to 102 (fun v w' => v = .bool false ∧ Bel W8 w')
  case first =>
    have HW := Bel.refl W8
    rcases hM with ⟨rfl, rfl, m1, m2⟩ | ⟨rfl, rfl, m1⟩
    · obtain ⟨e1, e2, mi⟩ := hi (by decide)
      subst ui
      subst ni'
      have d1 : decide (1 ≤ mode) = true := decide_eq_true m1
      have d2 : decide (mode ≤ 7) = true := decide_eq_true m2
      clear m1 m2 hi
      replace HW := HW.dr
      replace HX := HX.dr
      replace HI := HI.dr
      replace rx := rx.dr
      replace nx := nx.dr
      replace mi := mi.dr
      refine wp_region_held_drew (S := fun w' => w'.cell? ⟨qx, 0, none⟩ = some (.bool sx) ∧ w'.cell? ⟨qx, 1, none⟩ = some (.slice Dx (dq x.num.natAbs) ex) ∧ w'.cell? ⟨qx, 2, none⟩ = some (.slice Dx' (dq x.den) ex') ∧ w'.cell? ⟨qi, 0, none⟩ = some (.bool (decide (t < 0))) ∧ w'.cell? ⟨qi, 1, none⟩ = some (.slice Vi (dl t.natAbs) ci')) (by kernel_rfl) ?_ (fun hHeld => ?_)
      · exact ⟨HX.c0, HX.c1, HX.c2, HI.c0, HI.c1⟩
      generalize W8.drew = Wd at *
      (refine wpAnyH_take (i := 0) (v := ?_) rfl (by decide +kernel) (by decide +kernel) (by decide +kernel) (fun _ _ _ h => h) (Or.inl ⟨by rfl, ?_⟩) (by assumption) ?_; rotate_left; (focus ((intro w hSw; (try dsimp only at hSw); go_simp); (try (with_reducible rfl)); done)); (try simp only [List.getElem_toArray, List.getElem_cons_zero, List.getElem_cons_succ, Act.put, List.setIfInBounds_toArray, List.set_cons_zero, List.set_cons_succ]))
      (refine wpAnyH_take (i := 1) (v := ?_) rfl (by decide +kernel) (by decide +kernel) (by decide +kernel) (fun _ _ _ h => h) (Or.inl ⟨by rfl, ?_⟩) (by assumption) ?_; rotate_left; (focus ((intro w hSw; (try dsimp only at hSw); go_simp); (try (with_reducible rfl)); done)); (try simp only [List.getElem_toArray, List.getElem_cons_zero, List.getElem_cons_succ, Act.put, List.setIfInBounds_toArray, List.set_cons_zero, List.set_cons_succ]))
      (refine wpAnyH_take (i := 2) (v := ?_) rfl (by decide +kernel) (by decide +kernel) (by decide +kernel) (fun _ _ _ h => h) (Or.inl ⟨by rfl, ?_⟩) (by assumption) ?_; rotate_left; (focus ((intro w hSw; (try dsimp only at hSw); go_simp); (try (with_reducible rfl)); done)); (try simp only [List.getElem_toArray, List.getElem_cons_zero, List.getElem_cons_succ, Act.put, List.setIfInBounds_toArray, List.set_cons_zero, List.set_cons_succ]))
      (refine wpAnyH_ready (rs := [3]) (by decide +kernel) (by simp) ?_; refine AllReadyH.cons rfl (fun K hK => ?_) AllReadyH.nil; go_simp; (go_at_call 11; (with_reducible refine (CM.out _).mono ?_); rintro e y1 ⟨rfl, hbk⟩; (with_reducible (replace HW := HW.up hbk; replace HX := HX.up hbk; replace HI := HI.up hbk; replace rx := rx.up hbk; replace nx := nx.up hbk; replace mi := mi.up hbk))); (try (go_wp2_with fail)); refine hK.out _ _ ?_ (fun hHeld => ?_); (focus ((try dsimp only); (with_reducible exact ⟨HX.c0, HX.c1, HX.c2, HI.c0, HI.c1⟩))); clear hK K; (try simp only [List.getElem_toArray, List.getElem_cons_zero, List.getElem_cons_succ, Act.put, List.setIfInBounds_toArray, List.set_cons_zero, List.set_cons_succ]))
      (refine wpAnyH_take (i := 4) (v := ?_) rfl (by decide +kernel) (by decide +kernel) (by decide +kernel) (fun _ _ _ h => h) (Or.inl ⟨by rfl, ?_⟩) (by assumption) ?_; rotate_left; (focus ((intro w hSw; (try dsimp only at hSw); go_simp); (try (with_reducible rfl)); done)); (try simp only [List.getElem_toArray, List.getElem_cons_zero, List.getElem_cons_succ, Act.put, List.setIfInBounds_toArray, List.set_cons_zero, List.set_cons_succ]))
      (refine wpAnyH_take (i := 5) (v := ?_) rfl (by decide +kernel) (by decide +kernel) (by decide +kernel) (fun _ _ _ h => h) (Or.inl ⟨by rfl, ?_⟩) (by assumption) ?_; rotate_left; (focus ((intro w hSw; (try dsimp only at hSw); go_simp); (try (with_reducible rfl)); done)); (try simp only [List.getElem_toArray, List.getElem_cons_zero, List.getElem_cons_succ, Act.put, List.setIfInBounds_toArray, List.set_cons_zero, List.set_cons_succ]))
      (refine wpAnyH_take (i := 6) (v := ?_) rfl (by decide +kernel) (by decide +kernel) (by decide +kernel) (fun _ _ _ h => h) (Or.inl ⟨by rfl, ?_⟩) (by assumption) ?_; rotate_left; (focus ((intro w hSw; (try dsimp only at hSw); go_simp); (try (with_reducible rfl)); done)); (try simp only [List.getElem_toArray, List.getElem_cons_zero, List.getElem_cons_succ, Act.put, List.setIfInBounds_toArray, List.set_cons_zero, List.set_cons_succ]))
      (refine wpAnyH_take (i := 8) (v := ?_) rfl (by decide +kernel) (by decide +kernel) (by decide +kernel) (fun _ _ _ h => h) (Or.inl ⟨by rfl, ?_⟩) (by assumption) ?_; rotate_left; (focus ((intro w hSw; (try dsimp only at hSw); go_simp); (try (with_reducible rfl)); done)); (try simp only [List.getElem_toArray, List.getElem_cons_zero, List.getElem_cons_succ, Act.put, List.setIfInBounds_toArray, List.set_cons_zero, List.set_cons_succ]))
      (refine wpAnyH_take (i := 9) (v := ?_) rfl (by decide +kernel) (by decide +kernel) (by decide +kernel) (fun _ _ _ h => h) (Or.inl ⟨by rfl, ?_⟩) (by assumption) ?_; rotate_left; (focus ((intro w hSw; (try dsimp only at hSw); go_simp); (try (with_reducible rfl)); done)); (try simp only [List.getElem_toArray, List.getElem_cons_zero, List.getElem_cons_succ, Act.put, List.setIfInBounds_toArray, List.set_cons_zero, List.set_cons_succ]))
      (refine wpAnyH_ready (rs := [7]) (by decide +kernel) (by simp) ?_; refine AllReadyH.cons rfl (fun K hK => ?_) AllReadyH.nil; go_simp; (go_at_call 11; (with_reducible refine (CM.out _).mono ?_); rintro e y2 ⟨rfl, hbk⟩; (with_reducible (replace HW := HW.up hbk; replace HX := HX.up hbk; replace HI := HI.up hbk; replace rx := rx.up hbk; replace nx := nx.up hbk; replace mi := mi.up hbk))); (try (go_wp2_with fail)); refine hK.out _ _ ?_ (fun hHeld => ?_); (focus ((try dsimp only); (with_reducible exact ⟨HX.c0, HX.c1, HX.c2, HI.c0, HI.c1⟩))); clear hK K; (try simp only [List.getElem_toArray, List.getElem_cons_zero, List.getElem_cons_succ, Act.put, List.setIfInBounds_toArray, List.set_cons_zero, List.set_cons_succ]))
      (refine wpAnyH_take (i := 10) (v := ?_) rfl (by decide +kernel) (by decide +kernel) (by decide +kernel) (fun _ _ _ h => h) (Or.inl ⟨by rfl, ?_⟩) (by assumption) ?_; rotate_left; (focus ((intro w hSw; (try dsimp only at hSw); go_simp); (try (with_reducible rfl)); done)); (try simp only [List.getElem_toArray, List.getElem_cons_zero, List.getElem_cons_succ, Act.put, List.setIfInBounds_toArray, List.set_cons_zero, List.set_cons_succ]))
      (refine wpAnyH_take (i := 11) (v := ?_) rfl (by decide +kernel) (by decide +kernel) (by decide +kernel) (fun _ _ _ h => h) (Or.inl ⟨by rfl, ?_⟩) (by assumption) ?_; rotate_left; (focus ((intro w hSw; (try dsimp only at hSw); go_simp); (try (with_reducible rfl)); done)); (try simp only [List.getElem_toArray, List.getElem_cons_zero, List.getElem_cons_succ, Act.put, List.setIfInBounds_toArray, List.set_cons_zero, List.set_cons_succ]))
      (refine wpAnyH_take (i := 12) (v := ?_) rfl (by decide +kernel) (by decide +kernel) (by decide +kernel) (fun _ _ _ h => h) (Or.inl ⟨by rfl, ?_⟩) (by assumption) ?_; rotate_left; (focus ((intro w hSw; (try dsimp only at hSw); go_simp); (try (with_reducible rfl)); done)); (try simp only [List.getElem_toArray, List.getElem_cons_zero, List.getElem_cons_succ, Act.put, List.setIfInBounds_toArray, List.set_cons_zero, List.set_cons_succ]))
      (refine wpAnyH_take (i := 13) (v := ?_) rfl (by decide +kernel) (by decide +kernel) (by decide +kernel) (fun _ _ _ h => h) (Or.inl ⟨by rfl, ?_⟩) (by assumption) ?_; rotate_left; (focus ((intro w hSw; (try dsimp only at hSw); go_simp); (try (with_reducible rfl)); done)); (try simp only [List.getElem_toArray, List.getElem_cons_zero, List.getElem_cons_succ, Act.put, List.setIfInBounds_toArray, List.set_cons_zero, List.set_cons_succ]))
      (refine wpAnyH_take (i := 14) (v := ?_) rfl (by decide +kernel) (by decide +kernel) (by decide +kernel) (fun _ _ _ h => h) (Or.inl ⟨by rfl, ?_⟩) (by assumption) ?_; rotate_left; (focus ((intro w hSw; (try dsimp only at hSw); go_simp); (try (with_reducible rfl)); done)); (try simp only [List.getElem_toArray, List.getElem_cons_zero, List.getElem_cons_succ, Act.put, List.setIfInBounds_toArray, List.set_cons_zero, List.set_cons_succ]))
      (refine wpAnyH_take (i := 15) (v := ?_) rfl (by decide +kernel) (by decide +kernel) (by decide +kernel) (fun _ _ _ h => h) (Or.inl ⟨by rfl, ?_⟩) (by assumption) ?_; rotate_left; (focus ((intro w hSw; (try dsimp only at hSw); go_simp); (try (with_reducible rfl)); done)); (try simp only [List.getElem_toArray, List.getElem_cons_zero, List.getElem_cons_succ, Act.put, List.setIfInBounds_toArray, List.set_cons_zero, List.set_cons_succ]))
      (refine wpAnyH_take (i := 16) (v := ?_) rfl (by decide +kernel) (by decide +kernel) (by decide +kernel) (fun _ _ _ h => h) (Or.inl ⟨by rfl, ?_⟩) (by assumption) ?_; rotate_left; (focus ((intro w hSw; (try dsimp only at hSw); go_simp); (try (with_reducible rfl)); done)); (try simp only [List.getElem_toArray, List.getElem_cons_zero, List.getElem_cons_succ, Act.put, List.setIfInBounds_toArray, List.set_cons_zero, List.set_cons_succ]))
      (refine wpAnyH_take (i := 17) (v := ?_) rfl (by decide +kernel) (by decide +kernel) (by decide +kernel) (fun _ _ _ h => h) (Or.inl ⟨by rfl, ?_⟩) (by assumption) ?_; rotate_left; (focus ((intro w hSw; (try dsimp only at hSw); go_simp); (try (with_reducible rfl)); done)); (try simp only [List.getElem_toArray, List.getElem_cons_zero, List.getElem_cons_succ, Act.put, List.setIfInBounds_toArray, List.set_cons_zero, List.set_cons_succ]))
      (refine wpAnyH_take (i := 18) (v := ?_) rfl (by decide +kernel) (by decide +kernel) (by decide +kernel) (fun _ _ _ h => h) (Or.inl ⟨by rfl, ?_⟩) (by assumption) ?_; rotate_left; (focus ((intro w hSw; (try dsimp only at hSw); go_simp); (try (with_reducible rfl)); done)); (try simp only [List.getElem_toArray, List.getElem_cons_zero, List.getElem_cons_succ, Act.put, List.setIfInBounds_toArray, List.set_cons_zero, List.set_cons_succ]))
      (refine wpAnyH_take (i := 19) (v := ?_) rfl (by decide +kernel) (by decide +kernel) (by decide +kernel) (fun _ _ _ h => h) (Or.inl ⟨by rfl, ?_⟩) (by assumption) ?_; rotate_left; (focus ((intro w hSw; (try dsimp only at hSw); go_simp); (try (with_reducible rfl)); done)); (try simp only [List.getElem_toArray, List.getElem_cons_zero, List.getElem_cons_succ, Act.put, List.setIfInBounds_toArray, List.set_cons_zero, List.set_cons_succ]))
      (refine wpAnyH_take (i := 20) (v := ?_) rfl (by decide +kernel) (by decide +kernel) (by decide +kernel) (fun _ _ _ h => h) (Or.inl ⟨by rfl, ?_⟩) (by assumption) ?_; rotate_left; (focus ((intro w hSw; (try dsimp only at hSw); go_simp); (try (with_reducible rfl)); done)); (try simp only [List.getElem_toArray, List.getElem_cons_zero, List.getElem_cons_succ, Act.put, List.setIfInBounds_toArray, List.set_cons_zero, List.set_cons_succ]))
      (refine wpAnyH_take (i := 21) (v := ?_) rfl (by decide +kernel) (by decide +kernel) (by decide +kernel) (fun _ _ _ h => h) (Or.inl ⟨by rfl, ?_⟩) (by assumption) ?_; rotate_left; (focus ((intro w hSw; (try dsimp only at hSw); go_simp); (try (with_reducible rfl)); done)); (try simp only [List.getElem_toArray, List.getElem_cons_zero, List.getElem_cons_succ, Act.put, List.setIfInBounds_toArray, List.set_cons_zero, List.set_cons_succ]))
      (refine wpAnyH_take (i := 22) (v := ?_) rfl (by decide +kernel) (by decide +kernel) (by decide +kernel) (fun _ _ _ h => h) (Or.inl ⟨by rfl, ?_⟩) (by assumption) ?_; rotate_left; (focus ((intro w hSw; (try dsimp only at hSw); go_simp); (try (with_reducible rfl)); done)); (try simp only [List.getElem_toArray, List.getElem_cons_zero, List.getElem_cons_succ, Act.put, List.setIfInBounds_toArray, List.set_cons_zero, List.set_cons_succ]))
      (refine wpAnyH_ready (rs := [23]) (by decide +kernel) (by simp) ?_; refine AllReadyH.cons rfl (fun K hK => ?_) AllReadyH.nil; go_simp; (go_at_call 13; (with_reducible refine (CJ.out _ _ _ _ _ (by trivial) rx nx).mono ?_); rintro e y3 ⟨J, j, rfl, mj, hbk⟩; (with_reducible (replace HW := HW.up hbk; replace HX := HX.up hbk; replace HI := HI.up hbk; replace rx := rx.up hbk; replace nx := nx.up hbk; replace mi := mi.up hbk))); (try (go_wp2_with fail)); refine hK.out _ _ ?_ (fun hHeld => ?_); (focus ((try dsimp only); (with_reducible exact ⟨HX.c0, HX.c1, HX.c2, HI.c0, HI.c1⟩))); clear hK K; (try simp only [List.getElem_toArray, List.getElem_cons_zero, List.getElem_cons_succ, Act.put, List.setIfInBounds_toArray, List.set_cons_zero, List.set_cons_succ]))
      (refine wpAnyH_ready (rs := [24]) (by decide +kernel) (by simp) ?_; refine AllReadyH.cons rfl (fun K hK => ?_) AllReadyH.nil; go_simp; (go_at_call 12; (with_reducible refine (CZ.out _ _ _ _ _ (by trivial) mi mj).mono ?_); rintro e y4 ⟨rfl, hbk⟩; (with_reducible (replace HW := HW.up hbk; replace HX := HX.up hbk; replace HI := HI.up hbk; replace rx := rx.up hbk; replace nx := nx.up hbk; replace mi := mi.up hbk))); (try (go_wp2_with fail)); refine hK.out _ _ ?_ (fun hHeld => ?_); (focus ((try dsimp only); (with_reducible exact ⟨HX.c0, HX.c1, HX.c2, HI.c0, HI.c1⟩))); clear hK K; (try simp only [List.getElem_toArray, List.getElem_cons_zero, List.getElem_cons_succ, Act.put, List.setIfInBounds_toArray, List.set_cons_zero, List.set_cons_succ]))
      (refine wpAnyH_take (i := 25) (v := ?_) rfl (by decide +kernel) (by decide +kernel) (by decide +kernel) (fun _ _ _ h => h) (Or.inl ⟨by rfl, ?_⟩) (by assumption) ?_; rotate_left; (focus ((intro w hSw; (try dsimp only at hSw); go_simp); (try (with_reducible rfl)); done)); (try simp only [List.getElem_toArray, List.getElem_cons_zero, List.getElem_cons_succ, Act.put, List.setIfInBounds_toArray, List.set_cons_zero, List.set_cons_succ]))
      (refine wpAnyH_take (i := 26) (v := ?_) rfl (by decide +kernel) (by decide +kernel) (by decide +kernel) (fun _ _ _ h => h) (Or.inl ⟨by rfl, ?_⟩) (by assumption) ?_; rotate_left; (focus ((intro w hSw; (try dsimp only at hSw); go_simp); (try (with_reducible rfl)); done)); (try simp only [List.getElem_toArray, List.getElem_cons_zero, List.getElem_cons_succ, Act.put, List.setIfInBounds_toArray, List.set_cons_zero, List.set_cons_succ]))
      (refine wpAnyH_take (i := 27) (v := ?_) rfl (by decide +kernel) (by decide +kernel) (by decide +kernel) (fun _ _ _ h => h) (Or.inl ⟨by rfl, ?_⟩) (by assumption) ?_; rotate_left; (focus ((intro w hSw; (try dsimp only at hSw); go_simp); (try (with_reducible rfl)); done)); (try simp only [List.getElem_toArray, List.getElem_cons_zero, List.getElem_cons_succ, Act.put, List.setIfInBounds_toArray, List.set_cons_zero, List.set_cons_succ]))
      (refine wpAnyH_take (i := 28) (v := ?_) rfl (by decide +kernel) (by decide +kernel) (by decide +kernel) (fun _ _ _ h => h) (Or.inl ⟨by rfl, ?_⟩) (by assumption) ?_; rotate_left; (focus ((intro w hSw; (try dsimp only at hSw); go_simp); (try (with_reducible rfl)); done)); (try simp only [List.getElem_toArray, List.getElem_cons_zero, List.getElem_cons_succ, Act.put, List.setIfInBounds_toArray, List.set_cons_zero, List.set_cons_succ]))
      (refine wpAnyH_take (i := 29) (v := ?_) rfl (by decide +kernel) (by decide +kernel) (by decide +kernel) (fun _ _ _ h => h) (Or.inl ⟨by rfl, ?_⟩) (by assumption) ?_; rotate_left; (focus ((intro w hSw; (try dsimp only at hSw); go_simp); (try (with_reducible rfl)); done)); (try simp only [List.getElem_toArray, List.getElem_cons_zero, List.getElem_cons_succ, Act.put, List.setIfInBounds_toArray, List.set_cons_zero, List.set_cons_succ]))
      (refine wpAnyH_take (i := 30) (v := ?_) rfl (by decide +kernel) (by decide +kernel) (by decide +kernel) (fun _ _ _ h => h) (Or.inl ⟨by rfl, ?_⟩) (by assumption) ?_; rotate_left; (focus ((intro w hSw; (try dsimp only at hSw); go_simp); (try (with_reducible rfl)); done)); (try simp only [List.getElem_toArray, List.getElem_cons_zero, List.getElem_cons_succ, Act.put, List.setIfInBounds_toArray, List.set_cons_zero, List.set_cons_succ]))
      (refine wpAnyH_take (i := 31) (v := ?_) rfl (by decide +kernel) (by decide +kernel) (by decide +kernel) (fun _ _ _ h => h) (Or.inl ⟨by rfl, ?_⟩) (by assumption) ?_; rotate_left; (focus ((intro w hSw; (try dsimp only at hSw); go_simp); (try (with_reducible rfl)); done)); (try simp only [List.getElem_toArray, List.getElem_cons_zero, List.getElem_cons_succ, Act.put, List.setIfInBounds_toArray, List.set_cons_zero, List.set_cons_succ]))
      (refine wpAnyH_take (i := 32) (v := undef) rfl (by decide +kernel) (by decide +kernel) (by decide +kernel) (fun _ _ _ h => h) (Or.inr ⟨by rfl, rfl⟩) (by assumption) ?_; (try simp only [List.getElem_toArray, List.getElem_cons_zero, List.getElem_cons_succ, Act.put, List.setIfInBounds_toArray, List.set_cons_zero, List.set_cons_succ]))
      (refine wpAnyH_take (i := 33) (v := undef) rfl (by decide +kernel) (by decide +kernel) (by decide +kernel) (fun _ _ _ h => h) (Or.inr ⟨by rfl, rfl⟩) (by assumption) ?_; (try simp only [List.getElem_toArray, List.getElem_cons_zero, List.getElem_cons_succ, Act.put, List.setIfInBounds_toArray, List.set_cons_zero, List.set_cons_succ]))
      (refine wpAnyH_take (i := 34) (v := ?_) rfl (by decide +kernel) (by decide +kernel) (by decide +kernel) (fun _ _ _ h => h) (Or.inl ⟨by rfl, ?_⟩) (by assumption) ?_; rotate_left; (focus ((intro w hSw; (try dsimp only at hSw); go_simp); (try (with_reducible rfl)); done)); (try simp only [List.getElem_toArray, List.getElem_cons_zero, List.getElem_cons_succ, Act.put, List.setIfInBounds_toArray, List.set_cons_zero, List.set_cons_succ]))
      (refine wpAnyH_take (i := 35) (v := ?_) rfl (by decide +kernel) (by decide +kernel) (by decide +kernel) (fun _ _ _ h => h) (Or.inl ⟨by rfl, ?_⟩) (by assumption) ?_; rotate_left; (focus ((intro w hSw; (try dsimp only at hSw); go_simp); (try (with_reducible rfl)); done)); (try simp only [List.getElem_toArray, List.getElem_cons_zero, List.getElem_cons_succ, Act.put, List.setIfInBounds_toArray, List.set_cons_zero, List.set_cons_succ]))
      refine wpAnyH_done (by decide +kernel) ?_ _
      go_wp2_with fail
      go_meet
      case rel => exact ⟨rfl, HW⟩
    · by_cases m2 : 1 ≤ mode
      · have d1 : decide (1 ≤ mode) = true := decide_eq_true m2
        have d2 : decide (mode ≤ 7) = false := decide_eq_false (fun k => m1 ⟨m2, k⟩)
        clear m1 m2 hi
        replace HW := HW.dr
        replace HX := HX.dr
        replace HI := HI.dr
        replace rx := rx.dr
        replace nx := nx.dr
        refine wp_region_held_drew (S := fun w' => w'.cell? ⟨qx, 0, none⟩ = some (.bool sx) ∧ w'.cell? ⟨qx, 1, none⟩ = some (.slice Dx (dq x.num.natAbs) ex) ∧ w'.cell? ⟨qx, 2, none⟩ = some (.slice Dx' (dq x.den) ex') ∧ w'.cell? ⟨qi, 0, none⟩ = some (.bool ui) ∧ w'.cell? ⟨qi, 1, none⟩ = some (.slice Vi ni' ci')) (by kernel_rfl) ?_ (fun hHeld => ?_)
        · exact ⟨HX.c0, HX.c1, HX.c2, HI.c0, HI.c1⟩
        generalize W8.drew = Wd at *
        (refine wpAnyH_take (i := 0) (v := ?_) rfl (by decide +kernel) (by decide +kernel) (by decide +kernel) (fun _ _ _ h => h) (Or.inl ⟨by rfl, ?_⟩) (by assumption) ?_; rotate_left; (focus ((intro w hSw; (try dsimp only at hSw); go_simp); (try (with_reducible rfl)); done)); (try simp only [List.getElem_toArray, List.getElem_cons_zero, List.getElem_cons_succ, Act.put, List.setIfInBounds_toArray, List.set_cons_zero, List.set_cons_succ]))
        (refine wpAnyH_take (i := 1) (v := ?_) rfl (by decide +kernel) (by decide +kernel) (by decide +kernel) (fun _ _ _ h => h) (Or.inl ⟨by rfl, ?_⟩) (by assumption) ?_; rotate_left; (focus ((intro w hSw; (try dsimp only at hSw); go_simp); (try (with_reducible rfl)); done)); (try simp only [List.getElem_toArray, List.getElem_cons_zero, List.getElem_cons_succ, Act.put, List.setIfInBounds_toArray, List.set_cons_zero, List.set_cons_succ]))
        (refine wpAnyH_take (i := 2) (v := ?_) rfl (by decide +kernel) (by decide +kernel) (by decide +kernel) (fun _ _ _ h => h) (Or.inl ⟨by rfl, ?_⟩) (by assumption) ?_; rotate_left; (focus ((intro w hSw; (try dsimp only at hSw); go_simp); (try (with_reducible rfl)); done)); (try simp only [List.getElem_toArray, List.getElem_cons_zero, List.getElem_cons_succ, Act.put, List.setIfInBounds_toArray, List.set_cons_zero, List.set_cons_succ]))
        (refine wpAnyH_ready (rs := [3]) (by decide +kernel) (by simp) ?_; refine AllReadyH.cons rfl (fun K hK => ?_) AllReadyH.nil; go_simp; (go_at_call 11; (with_reducible refine (CM.out _).mono ?_); rintro e y1 ⟨rfl, hbk⟩; (with_reducible (replace HW := HW.up hbk; replace HX := HX.up hbk; replace HI := HI.up hbk; replace rx := rx.up hbk; replace nx := nx.up hbk))); (try (go_wp2_with fail)); refine hK.out _ _ ?_ (fun hHeld => ?_); (focus ((try dsimp only); (with_reducible exact ⟨HX.c0, HX.c1, HX.c2, HI.c0, HI.c1⟩))); clear hK K; (try simp only [List.getElem_toArray, List.getElem_cons_zero, List.getElem_cons_succ, Act.put, List.setIfInBounds_toArray, List.set_cons_zero, List.set_cons_succ]))
        (refine wpAnyH_take (i := 4) (v := ?_) rfl (by decide +kernel) (by decide +kernel) (by decide +kernel) (fun _ _ _ h => h) (Or.inl ⟨by rfl, ?_⟩) (by assumption) ?_; rotate_left; (focus ((intro w hSw; (try dsimp only at hSw); go_simp); (try (with_reducible rfl)); done)); (try simp only [List.getElem_toArray, List.getElem_cons_zero, List.getElem_cons_succ, Act.put, List.setIfInBounds_toArray, List.set_cons_zero, List.set_cons_succ]))
        (refine wpAnyH_take (i := 5) (v := ?_) rfl (by decide +kernel) (by decide +kernel) (by decide +kernel) (fun _ _ _ h => h) (Or.inl ⟨by rfl, ?_⟩) (by assumption) ?_; rotate_left; (focus ((intro w hSw; (try dsimp only at hSw); go_simp); (try (with_reducible rfl)); done)); (try simp only [List.getElem_toArray, List.getElem_cons_zero, List.getElem_cons_succ, Act.put, List.setIfInBounds_toArray, List.set_cons_zero, List.set_cons_succ]))
        (refine wpAnyH_take (i := 6) (v := ?_) rfl (by decide +kernel) (by decide +kernel) (by decide +kernel) (fun _ _ _ h => h) (Or.inl ⟨by rfl, ?_⟩) (by assumption) ?_; rotate_left; (focus ((intro w hSw; (try dsimp only at hSw); go_simp); (try (with_reducible rfl)); done)); (try simp only [List.getElem_toArray, List.getElem_cons_zero, List.getElem_cons_succ, Act.put, List.setIfInBounds_toArray, List.set_cons_zero, List.set_cons_succ]))
        (refine wpAnyH_take (i := 8) (v := ?_) rfl (by decide +kernel) (by decide +kernel) (by decide +kernel) (fun _ _ _ h => h) (Or.inl ⟨by rfl, ?_⟩) (by assumption) ?_; rotate_left; (focus ((intro w hSw; (try dsimp only at hSw); go_simp); (try (with_reducible rfl)); done)); (try simp only [List.getElem_toArray, List.getElem_cons_zero, List.getElem_cons_succ, Act.put, List.setIfInBounds_toArray, List.set_cons_zero, List.set_cons_succ]))
        (refine wpAnyH_take (i := 9) (v := ?_) rfl (by decide +kernel) (by decide +kernel) (by decide +kernel) (fun _ _ _ h => h) (Or.inl ⟨by rfl, ?_⟩) (by assumption) ?_; rotate_left; (focus ((intro w hSw; (try dsimp only at hSw); go_simp); (try (with_reducible rfl)); done)); (try simp only [List.getElem_toArray, List.getElem_cons_zero, List.getElem_cons_succ, Act.put, List.setIfInBounds_toArray, List.set_cons_zero, List.set_cons_succ]))
        (refine wpAnyH_ready (rs := [7]) (by decide +kernel) (by simp) ?_; refine AllReadyH.cons rfl (fun K hK => ?_) AllReadyH.nil; go_simp; (go_at_call 11; (with_reducible refine (CM.out _).mono ?_); rintro e y2 ⟨rfl, hbk⟩; (with_reducible (replace HW := HW.up hbk; replace HX := HX.up hbk; replace HI := HI.up hbk; replace rx := rx.up hbk; replace nx := nx.up hbk))); (try (go_wp2_with fail)); refine hK.out _ _ ?_ (fun hHeld => ?_); (focus ((try dsimp only); (with_reducible exact ⟨HX.c0, HX.c1, HX.c2, HI.c0, HI.c1⟩))); clear hK K; (try simp only [List.getElem_toArray, List.getElem_cons_zero, List.getElem_cons_succ, Act.put, List.setIfInBounds_toArray, List.set_cons_zero, List.set_cons_succ]))
        (refine wpAnyH_take (i := 10) (v := ?_) rfl (by decide +kernel) (by decide +kernel) (by decide +kernel) (fun _ _ _ h => h) (Or.inl ⟨by rfl, ?_⟩) (by assumption) ?_; rotate_left; (focus ((intro w hSw; (try dsimp only at hSw); go_simp); (try (with_reducible rfl)); done)); (try simp only [List.getElem_toArray, List.getElem_cons_zero, List.getElem_cons_succ, Act.put, List.setIfInBounds_toArray, List.set_cons_zero, List.set_cons_succ]))
        (refine wpAnyH_take (i := 11) (v := ?_) rfl (by decide +kernel) (by decide +kernel) (by decide +kernel) (fun _ _ _ h => h) (Or.inl ⟨by rfl, ?_⟩) (by assumption) ?_; rotate_left; (focus ((intro w hSw; (try dsimp only at hSw); go_simp); (try (with_reducible rfl)); done)); (try simp only [List.getElem_toArray, List.getElem_cons_zero, List.getElem_cons_succ, Act.put, List.setIfInBounds_toArray, List.set_cons_zero, List.set_cons_succ]))
        (refine wpAnyH_take (i := 12) (v := ?_) rfl (by decide +kernel) (by decide +kernel) (by decide +kernel) (fun _ _ _ h => h) (Or.inl ⟨by rfl, ?_⟩) (by assumption) ?_; rotate_left; (focus ((intro w hSw; (try dsimp only at hSw); go_simp); (try (with_reducible rfl)); done)); (try simp only [List.getElem_toArray, List.getElem_cons_zero, List.getElem_cons_succ, Act.put, List.setIfInBounds_toArray, List.set_cons_zero, List.set_cons_succ]))
        (refine wpAnyH_take (i := 13) (v := ?_) rfl (by decide +kernel) (by decide +kernel) (by decide +kernel) (fun _ _ _ h => h) (Or.inl ⟨by rfl, ?_⟩) (by assumption) ?_; rotate_left; (focus ((intro w hSw; (try dsimp only at hSw); go_simp); (try (with_reducible rfl)); done)); (try simp only [List.getElem_toArray, List.getElem_cons_zero, List.getElem_cons_succ, Act.put, List.setIfInBounds_toArray, List.set_cons_zero, List.set_cons_succ]))
        (refine wpAnyH_take (i := 14) (v := ?_) rfl (by decide +kernel) (by decide +kernel) (by decide +kernel) (fun _ _ _ h => h) (Or.inl ⟨by rfl, ?_⟩) (by assumption) ?_; rotate_left; (focus ((intro w hSw; (try dsimp only at hSw); go_simp); (try (with_reducible rfl)); done)); (try simp only [List.getElem_toArray, List.getElem_cons_zero, List.getElem_cons_succ, Act.put, List.setIfInBounds_toArray, List.set_cons_zero, List.set_cons_succ]))
        (refine wpAnyH_take (i := 15) (v := ?_) rfl (by decide +kernel) (by decide +kernel) (by decide +kernel) (fun _ _ _ h => h) (Or.inl ⟨by rfl, ?_⟩) (by assumption) ?_; rotate_left; (focus ((intro w hSw; (try dsimp only at hSw); go_simp); (try (with_reducible rfl)); done)); (try simp only [List.getElem_toArray, List.getElem_cons_zero, List.getElem_cons_succ, Act.put, List.setIfInBounds_toArray, List.set_cons_zero, List.set_cons_succ]))
        (refine wpAnyH_take (i := 16) (v := ?_) rfl (by decide +kernel) (by decide +kernel) (by decide +kernel) (fun _ _ _ h => h) (Or.inl ⟨by rfl, ?_⟩) (by assumption) ?_; rotate_left; (focus ((intro w hSw; (try dsimp only at hSw); go_simp); (try (with_reducible rfl)); done)); (try simp only [List.getElem_toArray, List.getElem_cons_zero, List.getElem_cons_succ, Act.put, List.setIfInBounds_toArray, List.set_cons_zero, List.set_cons_succ]))
        (refine wpAnyH_take (i := 17) (v := ?_) rfl (by decide +kernel) (by decide +kernel) (by decide +kernel) (fun _ _ _ h => h) (Or.inl ⟨by rfl, ?_⟩) (by assumption) ?_; rotate_left; (focus ((intro w hSw; (try dsimp only at hSw); go_simp); (try (with_reducible rfl)); done)); (try simp only [List.getElem_toArray, List.getElem_cons_zero, List.getElem_cons_succ, Act.put, List.setIfInBounds_toArray, List.set_cons_zero, List.set_cons_succ]))
        (refine wpAnyH_take (i := 18) (v := ?_) rfl (by decide +kernel) (by decide +kernel) (by decide +kernel) (fun _ _ _ h => h) (Or.inl ⟨by rfl, ?_⟩) (by assumption) ?_; rotate_left; (focus ((intro w hSw; (try dsimp only at hSw); go_simp); (try (with_reducible rfl)); done)); (try simp only [List.getElem_toArray, List.getElem_cons_zero, List.getElem_cons_succ, Act.put, List.setIfInBounds_toArray, List.set_cons_zero, List.set_cons_succ]))
        (refine wpAnyH_take (i := 19) (v := ?_) rfl (by decide +kernel) (by decide +kernel) (by decide +kernel) (fun _ _ _ h => h) (Or.inl ⟨by rfl, ?_⟩) (by assumption) ?_; rotate_left; (focus ((intro w hSw; (try dsimp only at hSw); go_simp); (try (with_reducible rfl)); done)); (try simp only [List.getElem_toArray, List.getElem_cons_zero, List.getElem_cons_succ, Act.put, List.setIfInBounds_toArray, List.set_cons_zero, List.set_cons_succ]))
        (refine wpAnyH_take (i := 20) (v := undef) rfl (by decide +kernel) (by decide +kernel) (by decide +kernel) (fun _ _ _ h => h) (Or.inr ⟨by rfl, rfl⟩) (by assumption) ?_; (try simp only [List.getElem_toArray, List.getElem_cons_zero, List.getElem_cons_succ, Act.put, List.setIfInBounds_toArray, List.set_cons_zero, List.set_cons_succ]))
        (refine wpAnyH_take (i := 21) (v := undef) rfl (by decide +kernel) (by decide +kernel) (by decide +kernel) (fun _ _ _ h => h) (Or.inr ⟨by rfl, rfl⟩) (by assumption) ?_; (try simp only [List.getElem_toArray, List.getElem_cons_zero, List.getElem_cons_succ, Act.put, List.setIfInBounds_toArray, List.set_cons_zero, List.set_cons_succ]))
        (refine wpAnyH_take (i := 22) (v := undef) rfl (by decide +kernel) (by decide +kernel) (by decide +kernel) (fun _ _ _ h => h) (Or.inr ⟨by rfl, rfl⟩) (by assumption) ?_; (try simp only [List.getElem_toArray, List.getElem_cons_zero, List.getElem_cons_succ, Act.put, List.setIfInBounds_toArray, List.set_cons_zero, List.set_cons_succ]))
        (refine wpAnyH_take (i := 23) (v := undef) rfl (by decide +kernel) (by decide +kernel) (by decide +kernel) (fun _ _ _ h => h) (Or.inr ⟨by rfl, rfl⟩) (by assumption) ?_; (try simp only [List.getElem_toArray, List.getElem_cons_zero, List.getElem_cons_succ, Act.put, List.setIfInBounds_toArray, List.set_cons_zero, List.set_cons_succ]))
        (refine wpAnyH_take (i := 24) (v := undef) rfl (by decide +kernel) (by decide +kernel) (by decide +kernel) (fun _ _ _ h => h) (Or.inr ⟨by rfl, rfl⟩) (by assumption) ?_; (try simp only [List.getElem_toArray, List.getElem_cons_zero, List.getElem_cons_succ, Act.put, List.setIfInBounds_toArray, List.set_cons_zero, List.set_cons_succ]))
        (refine wpAnyH_take (i := 25) (v := undef) rfl (by decide +kernel) (by decide +kernel) (by decide +kernel) (fun _ _ _ h => h) (Or.inr ⟨by rfl, rfl⟩) (by assumption) ?_; (try simp only [List.getElem_toArray, List.getElem_cons_zero, List.getElem_cons_succ, Act.put, List.setIfInBounds_toArray, List.set_cons_zero, List.set_cons_succ]))
        (refine wpAnyH_take (i := 26) (v := ?_) rfl (by decide +kernel) (by decide +kernel) (by decide +kernel) (fun _ _ _ h => h) (Or.inl ⟨by rfl, ?_⟩) (by assumption) ?_; rotate_left; (focus ((intro w hSw; (try dsimp only at hSw); go_simp); (try (with_reducible rfl)); done)); (try simp only [List.getElem_toArray, List.getElem_cons_zero, List.getElem_cons_succ, Act.put, List.setIfInBounds_toArray, List.set_cons_zero, List.set_cons_succ]))
        (refine wpAnyH_take (i := 27) (v := ?_) rfl (by decide +kernel) (by decide +kernel) (by decide +kernel) (fun _ _ _ h => h) (Or.inl ⟨by rfl, ?_⟩) (by assumption) ?_; rotate_left; (focus ((intro w hSw; (try dsimp only at hSw); go_simp); (try (with_reducible rfl)); done)); (try simp only [List.getElem_toArray, List.getElem_cons_zero, List.getElem_cons_succ, Act.put, List.setIfInBounds_toArray, List.set_cons_zero, List.set_cons_succ]))
        (refine wpAnyH_take (i := 28) (v := ?_) rfl (by decide +kernel) (by decide +kernel) (by decide +kernel) (fun _ _ _ h => h) (Or.inl ⟨by rfl, ?_⟩) (by assumption) ?_; rotate_left; (focus ((intro w hSw; (try dsimp only at hSw); go_simp); (try (with_reducible rfl)); done)); (try simp only [List.getElem_toArray, List.getElem_cons_zero, List.getElem_cons_succ, Act.put, List.setIfInBounds_toArray, List.set_cons_zero, List.set_cons_succ]))
        (refine wpAnyH_take (i := 29) (v := ?_) rfl (by decide +kernel) (by decide +kernel) (by decide +kernel) (fun _ _ _ h => h) (Or.inl ⟨by rfl, ?_⟩) (by assumption) ?_; rotate_left; (focus ((intro w hSw; (try dsimp only at hSw); go_simp); (try (with_reducible rfl)); done)); (try simp only [List.getElem_toArray, List.getElem_cons_zero, List.getElem_cons_succ, Act.put, List.setIfInBounds_toArray, List.set_cons_zero, List.set_cons_succ]))
        (refine wpAnyH_take (i := 30) (v := ?_) rfl (by decide +kernel) (by decide +kernel) (by decide +kernel) (fun _ _ _ h => h) (Or.inl ⟨by rfl, ?_⟩) (by assumption) ?_; rotate_left; (focus ((intro w hSw; (try dsimp only at hSw); go_simp); (try (with_reducible rfl)); done)); (try simp only [List.getElem_toArray, List.getElem_cons_zero, List.getElem_cons_succ, Act.put, List.setIfInBounds_toArray, List.set_cons_zero, List.set_cons_succ]))
        (refine wpAnyH_take (i := 31) (v := ?_) rfl (by decide +kernel) (by decide +kernel) (by decide +kernel) (fun _ _ _ h => h) (Or.inl ⟨by rfl, ?_⟩) (by assumption) ?_; rotate_left; (focus ((intro w hSw; (try dsimp only at hSw); go_simp); (try (with_reducible rfl)); done)); (try simp only [List.getElem_toArray, List.getElem_cons_zero, List.getElem_cons_succ, Act.put, List.setIfInBounds_toArray, List.set_cons_zero, List.set_cons_succ]))
        (refine wpAnyH_take (i := 32) (v := ?_) rfl (by decide +kernel) (by decide +kernel) (by decide +kernel) (fun _ _ _ h => h) (Or.inl ⟨by rfl, ?_⟩) (by assumption) ?_; rotate_left; (focus ((intro w hSw; (try dsimp only at hSw); go_simp); (try (with_reducible rfl)); done)); (try simp only [List.getElem_toArray, List.getElem_cons_zero, List.getElem_cons_succ, Act.put, List.setIfInBounds_toArray, List.set_cons_zero, List.set_cons_succ]))
        (refine wpAnyH_take (i := 33) (v := ?_) rfl (by decide +kernel) (by decide +kernel) (by decide +kernel) (fun _ _ _ h => h) (Or.inl ⟨by rfl, ?_⟩) (by assumption) ?_; rotate_left; (focus ((intro w hSw; (try dsimp only at hSw); go_simp); (try (with_reducible rfl)); done)); (try simp only [List.getElem_toArray, List.getElem_cons_zero, List.getElem_cons_succ, Act.put, List.setIfInBounds_toArray, List.set_cons_zero, List.set_cons_succ]))
        (refine wpAnyH_take (i := 34) (v := ?_) rfl (by decide +kernel) (by decide +kernel) (by decide +kernel) (fun _ _ _ h => h) (Or.inl ⟨by rfl, ?_⟩) (by assumption) ?_; rotate_left; (focus ((intro w hSw; (try dsimp only at hSw); go_simp); (try (with_reducible rfl)); done)); (try simp only [List.getElem_toArray, List.getElem_cons_zero, List.getElem_cons_succ, Act.put, List.setIfInBounds_toArray, List.set_cons_zero, List.set_cons_succ]))
        (refine wpAnyH_take (i := 35) (v := ?_) rfl (by decide +kernel) (by decide +kernel) (by decide +kernel) (fun _ _ _ h => h) (Or.inl ⟨by rfl, ?_⟩) (by assumption) ?_; rotate_left; (focus ((intro w hSw; (try dsimp only at hSw); go_simp); (try (with_reducible rfl)); done)); (try simp only [List.getElem_toArray, List.getElem_cons_zero, List.getElem_cons_succ, Act.put, List.setIfInBounds_toArray, List.set_cons_zero, List.set_cons_succ]))
        refine wpAnyH_done (by decide +kernel) ?_ _
        go_wp2_with fail
        go_meet
        case rel => exact ⟨rfl, HW⟩
      · have d1 : decide (1 ≤ mode) = false := decide_eq_false m2
        clear m1 m2 hi
        replace HW := HW.dr
        replace HX := HX.dr
        replace HI := HI.dr
        replace rx := rx.dr
        replace nx := nx.dr
        refine wp_region_held_drew (S := fun w' => w'.cell? ⟨qx, 0, none⟩ = some (.bool sx) ∧ w'.cell? ⟨qx, 1, none⟩ = some (.slice Dx (dq x.num.natAbs) ex) ∧ w'.cell? ⟨qx, 2, none⟩ = some (.slice Dx' (dq x.den) ex') ∧ w'.cell? ⟨qi, 0, none⟩ = some (.bool ui) ∧ w'.cell? ⟨qi, 1, none⟩ = some (.slice Vi ni' ci')) (by kernel_rfl) ?_ (fun hHeld => ?_)
        · exact ⟨HX.c0, HX.c1, HX.c2, HI.c0, HI.c1⟩
        generalize W8.drew = Wd at *
        (refine wpAnyH_take (i := 0) (v := ?_) rfl (by decide +kernel) (by decide +kernel) (by decide +kernel) (fun _ _ _ h => h) (Or.inl ⟨by rfl, ?_⟩) (by assumption) ?_; rotate_left; (focus ((intro w hSw; (try dsimp only at hSw); go_simp); (try (with_reducible rfl)); done)); (try simp only [List.getElem_toArray, List.getElem_cons_zero, List.getElem_cons_succ, Act.put, List.setIfInBounds_toArray, List.set_cons_zero, List.set_cons_succ]))
        (refine wpAnyH_take (i := 1) (v := ?_) rfl (by decide +kernel) (by decide +kernel) (by decide +kernel) (fun _ _ _ h => h) (Or.inl ⟨by rfl, ?_⟩) (by assumption) ?_; rotate_left; (focus ((intro w hSw; (try dsimp only at hSw); go_simp); (try (with_reducible rfl)); done)); (try simp only [List.getElem_toArray, List.getElem_cons_zero, List.getElem_cons_succ, Act.put, List.setIfInBounds_toArray, List.set_cons_zero, List.set_cons_succ]))
        (refine wpAnyH_take (i := 2) (v := ?_) rfl (by decide +kernel) (by decide +kernel) (by decide +kernel) (fun _ _ _ h => h) (Or.inl ⟨by rfl, ?_⟩) (by assumption) ?_; rotate_left; (focus ((intro w hSw; (try dsimp only at hSw); go_simp); (try (with_reducible rfl)); done)); (try simp only [List.getElem_toArray, List.getElem_cons_zero, List.getElem_cons_succ, Act.put, List.setIfInBounds_toArray, List.set_cons_zero, List.set_cons_succ]))
        (refine wpAnyH_ready (rs := [3]) (by decide +kernel) (by simp) ?_; refine AllReadyH.cons rfl (fun K hK => ?_) AllReadyH.nil; go_simp; (go_at_call 11; (with_reducible refine (CM.out _).mono ?_); rintro e y1 ⟨rfl, hbk⟩; (with_reducible (replace HW := HW.up hbk; replace HX := HX.up hbk; replace HI := HI.up hbk; replace rx := rx.up hbk; replace nx := nx.up hbk))); (try (go_wp2_with fail)); refine hK.out _ _ ?_ (fun hHeld => ?_); (focus ((try dsimp only); (with_reducible exact ⟨HX.c0, HX.c1, HX.c2, HI.c0, HI.c1⟩))); clear hK K; (try simp only [List.getElem_toArray, List.getElem_cons_zero, List.getElem_cons_succ, Act.put, List.setIfInBounds_toArray, List.set_cons_zero, List.set_cons_succ]))
        (refine wpAnyH_take (i := 4) (v := ?_) rfl (by decide +kernel) (by decide +kernel) (by decide +kernel) (fun _ _ _ h => h) (Or.inl ⟨by rfl, ?_⟩) (by assumption) ?_; rotate_left; (focus ((intro w hSw; (try dsimp only at hSw); go_simp); (try (with_reducible rfl)); done)); (try simp only [List.getElem_toArray, List.getElem_cons_zero, List.getElem_cons_succ, Act.put, List.setIfInBounds_toArray, List.set_cons_zero, List.set_cons_succ]))
        (refine wpAnyH_take (i := 5) (v := ?_) rfl (by decide +kernel) (by decide +kernel) (by decide +kernel) (fun _ _ _ h => h) (Or.inl ⟨by rfl, ?_⟩) (by assumption) ?_; rotate_left; (focus ((intro w hSw; (try dsimp only at hSw); go_simp); (try (with_reducible rfl)); done)); (try simp only [List.getElem_toArray, List.getElem_cons_zero, List.getElem_cons_succ, Act.put, List.setIfInBounds_toArray, List.set_cons_zero, List.set_cons_succ]))
        (refine wpAnyH_take (i := 6) (v := ?_) rfl (by decide +kernel) (by decide +kernel) (by decide +kernel) (fun _ _ _ h => h) (Or.inl ⟨by rfl, ?_⟩) (by assumption) ?_; rotate_left; (focus ((intro w hSw; (try dsimp only at hSw); go_simp); (try (with_reducible rfl)); done)); (try simp only [List.getElem_toArray, List.getElem_cons_zero, List.getElem_cons_succ, Act.put, List.setIfInBounds_toArray, List.set_cons_zero, List.set_cons_succ]))
        (refine wpAnyH_take (i := 8) (v := ?_) rfl (by decide +kernel) (by decide +kernel) (by decide +kernel) (fun _ _ _ h => h) (Or.inl ⟨by rfl, ?_⟩) (by assumption) ?_; rotate_left; (focus ((intro w hSw; (try dsimp only at hSw); go_simp); (try (with_reducible rfl)); done)); (try simp only [List.getElem_toArray, List.getElem_cons_zero, List.getElem_cons_succ, Act.put, List.setIfInBounds_toArray, List.set_cons_zero, List.set_cons_succ]))
        (refine wpAnyH_take (i := 9) (v := ?_) rfl (by decide +kernel) (by decide +kernel) (by decide +kernel) (fun _ _ _ h => h) (Or.inl ⟨by rfl, ?_⟩) (by assumption) ?_; rotate_left; (focus ((intro w hSw; (try dsimp only at hSw); go_simp); (try (with_reducible rfl)); done)); (try simp only [List.getElem_toArray, List.getElem_cons_zero, List.getElem_cons_succ, Act.put, List.setIfInBounds_toArray, List.set_cons_zero, List.set_cons_succ]))
        (refine wpAnyH_ready (rs := [7]) (by decide +kernel) (by simp) ?_; refine AllReadyH.cons rfl (fun K hK => ?_) AllReadyH.nil; go_simp; (go_at_call 11; (with_reducible refine (CM.out _).mono ?_); rintro e y2 ⟨rfl, hbk⟩; (with_reducible (replace HW := HW.up hbk; replace HX := HX.up hbk; replace HI := HI.up hbk; replace rx := rx.up hbk; replace nx := nx.up hbk))); (try (go_wp2_with fail)); refine hK.out _ _ ?_ (fun hHeld => ?_); (focus ((try dsimp only); (with_reducible exact ⟨HX.c0, HX.c1, HX.c2, HI.c0, HI.c1⟩))); clear hK K; (try simp only [List.getElem_toArray, List.getElem_cons_zero, List.getElem_cons_succ, Act.put, List.setIfInBounds_toArray, List.set_cons_zero, List.set_cons_succ]))
        (refine wpAnyH_take (i := 10) (v := ?_) rfl (by decide +kernel) (by decide +kernel) (by decide +kernel) (fun _ _ _ h => h) (Or.inl ⟨by rfl, ?_⟩) (by assumption) ?_; rotate_left; (focus ((intro w hSw; (try dsimp only at hSw); go_simp); (try (with_reducible rfl)); done)); (try simp only [List.getElem_toArray, List.getElem_cons_zero, List.getElem_cons_succ, Act.put, List.setIfInBounds_toArray, List.set_cons_zero, List.set_cons_succ]))
        (refine wpAnyH_take (i := 11) (v := undef) rfl (by decide +kernel) (by decide +kernel) (by decide +kernel) (fun _ _ _ h => h) (Or.inr ⟨by rfl, rfl⟩) (by assumption) ?_; (try simp only [List.getElem_toArray, List.getElem_cons_zero, List.getElem_cons_succ, Act.put, List.setIfInBounds_toArray, List.set_cons_zero, List.set_cons_succ]))
        (refine wpAnyH_take (i := 12) (v := undef) rfl (by decide +kernel) (by decide +kernel) (by decide +kernel) (fun _ _ _ h => h) (Or.inr ⟨by rfl, rfl⟩) (by assumption) ?_; (try simp only [List.getElem_toArray, List.getElem_cons_zero, List.getElem_cons_succ, Act.put, List.setIfInBounds_toArray, List.set_cons_zero, List.set_cons_succ]))
        (refine wpAnyH_take (i := 13) (v := ?_) rfl (by decide +kernel) (by decide +kernel) (by decide +kernel) (fun _ _ _ h => h) (Or.inl ⟨by rfl, ?_⟩) (by assumption) ?_; rotate_left; (focus ((intro w hSw; (try dsimp only at hSw); go_simp); (try (with_reducible rfl)); done)); (try simp only [List.getElem_toArray, List.getElem_cons_zero, List.getElem_cons_succ, Act.put, List.setIfInBounds_toArray, List.set_cons_zero, List.set_cons_succ]))
        (refine wpAnyH_take (i := 14) (v := ?_) rfl (by decide +kernel) (by decide +kernel) (by decide +kernel) (fun _ _ _ h => h) (Or.inl ⟨by rfl, ?_⟩) (by assumption) ?_; rotate_left; (focus ((intro w hSw; (try dsimp only at hSw); go_simp); (try (with_reducible rfl)); done)); (try simp only [List.getElem_toArray, List.getElem_cons_zero, List.getElem_cons_succ, Act.put, List.setIfInBounds_toArray, List.set_cons_zero, List.set_cons_succ]))
        (refine wpAnyH_take (i := 15) (v := ?_) rfl (by decide +kernel) (by decide +kernel) (by decide +kernel) (fun _ _ _ h => h) (Or.inl ⟨by rfl, ?_⟩) (by assumption) ?_; rotate_left; (focus ((intro w hSw; (try dsimp only at hSw); go_simp); (try (with_reducible rfl)); done)); (try simp only [List.getElem_toArray, List.getElem_cons_zero, List.getElem_cons_succ, Act.put, List.setIfInBounds_toArray, List.set_cons_zero, List.set_cons_succ]))
        (refine wpAnyH_take (i := 16) (v := ?_) rfl (by decide +kernel) (by decide +kernel) (by decide +kernel) (fun _ _ _ h => h) (Or.inl ⟨by rfl, ?_⟩) (by assumption) ?_; rotate_left; (focus ((intro w hSw; (try dsimp only at hSw); go_simp); (try (with_reducible rfl)); done)); (try simp only [List.getElem_toArray, List.getElem_cons_zero, List.getElem_cons_succ, Act.put, List.setIfInBounds_toArray, List.set_cons_zero, List.set_cons_succ]))
        (refine wpAnyH_take (i := 17) (v := ?_) rfl (by decide +kernel) (by decide +kernel) (by decide +kernel) (fun _ _ _ h => h) (Or.inl ⟨by rfl, ?_⟩) (by assumption) ?_; rotate_left; (focus ((intro w hSw; (try dsimp only at hSw); go_simp); (try (with_reducible rfl)); done)); (try simp only [List.getElem_toArray, List.getElem_cons_zero, List.getElem_cons_succ, Act.put, List.setIfInBounds_toArray, List.set_cons_zero, List.set_cons_succ]))
        (refine wpAnyH_take (i := 18) (v := ?_) rfl (by decide +kernel) (by decide +kernel) (by decide +kernel) (fun _ _ _ h => h) (Or.inl ⟨by rfl, ?_⟩) (by assumption) ?_; rotate_left; (focus ((intro w hSw; (try dsimp only at hSw); go_simp); (try (with_reducible rfl)); done)); (try simp only [List.getElem_toArray, List.getElem_cons_zero, List.getElem_cons_succ, Act.put, List.setIfInBounds_toArray, List.set_cons_zero, List.set_cons_succ]))
        (refine wpAnyH_take (i := 19) (v := ?_) rfl (by decide +kernel) (by decide +kernel) (by decide +kernel) (fun _ _ _ h => h) (Or.inl ⟨by rfl, ?_⟩) (by assumption) ?_; rotate_left; (focus ((intro w hSw; (try dsimp only at hSw); go_simp); (try (with_reducible rfl)); done)); (try simp only [List.getElem_toArray, List.getElem_cons_zero, List.getElem_cons_succ, Act.put, List.setIfInBounds_toArray, List.set_cons_zero, List.set_cons_succ]))
        (refine wpAnyH_take (i := 20) (v := undef) rfl (by decide +kernel) (by decide +kernel) (by decide +kernel) (fun _ _ _ h => h) (Or.inr ⟨by rfl, rfl⟩) (by assumption) ?_; (try simp only [List.getElem_toArray, List.getElem_cons_zero, List.getElem_cons_succ, Act.put, List.setIfInBounds_toArray, List.set_cons_zero, List.set_cons_succ]))
        (refine wpAnyH_take (i := 21) (v := undef) rfl (by decide +kernel) (by decide +kernel) (by decide +kernel) (fun _ _ _ h => h) (Or.inr ⟨by rfl, rfl⟩) (by assumption) ?_; (try simp only [List.getElem_toArray, List.getElem_cons_zero, List.getElem_cons_succ, Act.put, List.setIfInBounds_toArray, List.set_cons_zero, List.set_cons_succ]))
        (refine wpAnyH_take (i := 22) (v := undef) rfl (by decide +kernel) (by decide +kernel) (by decide +kernel) (fun _ _ _ h => h) (Or.inr ⟨by rfl, rfl⟩) (by assumption) ?_; (try simp only [List.getElem_toArray, List.getElem_cons_zero, List.getElem_cons_succ, Act.put, List.setIfInBounds_toArray, List.set_cons_zero, List.set_cons_succ]))
        (refine wpAnyH_take (i := 23) (v := undef) rfl (by decide +kernel) (by decide +kernel) (by decide +kernel) (fun _ _ _ h => h) (Or.inr ⟨by rfl, rfl⟩) (by assumption) ?_; (try simp only [List.getElem_toArray, List.getElem_cons_zero, List.getElem_cons_succ, Act.put, List.setIfInBounds_toArray, List.set_cons_zero, List.set_cons_succ]))
        (refine wpAnyH_take (i := 24) (v := undef) rfl (by decide +kernel) (by decide +kernel) (by decide +kernel) (fun _ _ _ h => h) (Or.inr ⟨by rfl, rfl⟩) (by assumption) ?_; (try simp only [List.getElem_toArray, List.getElem_cons_zero, List.getElem_cons_succ, Act.put, List.setIfInBounds_toArray, List.set_cons_zero, List.set_cons_succ]))
        (refine wpAnyH_take (i := 25) (v := undef) rfl (by decide +kernel) (by decide +kernel) (by decide +kernel) (fun _ _ _ h => h) (Or.inr ⟨by rfl, rfl⟩) (by assumption) ?_; (try simp only [List.getElem_toArray, List.getElem_cons_zero, List.getElem_cons_succ, Act.put, List.setIfInBounds_toArray, List.set_cons_zero, List.set_cons_succ]))
        (refine wpAnyH_take (i := 26) (v := ?_) rfl (by decide +kernel) (by decide +kernel) (by decide +kernel) (fun _ _ _ h => h) (Or.inl ⟨by rfl, ?_⟩) (by assumption) ?_; rotate_left; (focus ((intro w hSw; (try dsimp only at hSw); go_simp); (try (with_reducible rfl)); done)); (try simp only [List.getElem_toArray, List.getElem_cons_zero, List.getElem_cons_succ, Act.put, List.setIfInBounds_toArray, List.set_cons_zero, List.set_cons_succ]))
        (refine wpAnyH_take (i := 27) (v := ?_) rfl (by decide +kernel) (by decide +kernel) (by decide +kernel) (fun _ _ _ h => h) (Or.inl ⟨by rfl, ?_⟩) (by assumption) ?_; rotate_left; (focus ((intro w hSw; (try dsimp only at hSw); go_simp); (try (with_reducible rfl)); done)); (try simp only [List.getElem_toArray, List.getElem_cons_zero, List.getElem_cons_succ, Act.put, List.setIfInBounds_toArray, List.set_cons_zero, List.set_cons_succ]))
        (refine wpAnyH_take (i := 28) (v := ?_) rfl (by decide +kernel) (by decide +kernel) (by decide +kernel) (fun _ _ _ h => h) (Or.inl ⟨by rfl, ?_⟩) (by assumption) ?_; rotate_left; (focus ((intro w hSw; (try dsimp only at hSw); go_simp); (try (with_reducible rfl)); done)); (try simp only [List.getElem_toArray, List.getElem_cons_zero, List.getElem_cons_succ, Act.put, List.setIfInBounds_toArray, List.set_cons_zero, List.set_cons_succ]))
        (refine wpAnyH_take (i := 29) (v := ?_) rfl (by decide +kernel) (by decide +kernel) (by decide +kernel) (fun _ _ _ h => h) (Or.inl ⟨by rfl, ?_⟩) (by assumption) ?_; rotate_left; (focus ((intro w hSw; (try dsimp only at hSw); go_simp); (try (with_reducible rfl)); done)); (try simp only [List.getElem_toArray, List.getElem_cons_zero, List.getElem_cons_succ, Act.put, List.setIfInBounds_toArray, List.set_cons_zero, List.set_cons_succ]))
        (refine wpAnyH_take (i := 30) (v := ?_) rfl (by decide +kernel) (by decide +kernel) (by decide +kernel) (fun _ _ _ h => h) (Or.inl ⟨by rfl, ?_⟩) (by assumption) ?_; rotate_left; (focus ((intro w hSw; (try dsimp only at hSw); go_simp); (try (with_reducible rfl)); done)); (try simp only [List.getElem_toArray, List.getElem_cons_zero, List.getElem_cons_succ, Act.put, List.setIfInBounds_toArray, List.set_cons_zero, List.set_cons_succ]))
        (refine wpAnyH_take (i := 31) (v := ?_) rfl (by decide +kernel) (by decide +kernel) (by decide +kernel) (fun _ _ _ h => h) (Or.inl ⟨by rfl, ?_⟩) (by assumption) ?_; rotate_left; (focus ((intro w hSw; (try dsimp only at hSw); go_simp); (try (with_reducible rfl)); done)); (try simp only [List.getElem_toArray, List.getElem_cons_zero, List.getElem_cons_succ, Act.put, List.setIfInBounds_toArray, List.set_cons_zero, List.set_cons_succ]))
        (refine wpAnyH_take (i := 32) (v := ?_) rfl (by decide +kernel) (by decide +kernel) (by decide +kernel) (fun _ _ _ h => h) (Or.inl ⟨by rfl, ?_⟩) (by assumption) ?_; rotate_left; (focus ((intro w hSw; (try dsimp only at hSw); go_simp); (try (with_reducible rfl)); done)); (try simp only [List.getElem_toArray, List.getElem_cons_zero, List.getElem_cons_succ, Act.put, List.setIfInBounds_toArray, List.set_cons_zero, List.set_cons_succ]))
        (refine wpAnyH_take (i := 33) (v := ?_) rfl (by decide +kernel) (by decide +kernel) (by decide +kernel) (fun _ _ _ h => h) (Or.inl ⟨by rfl, ?_⟩) (by assumption) ?_; rotate_left; (focus ((intro w hSw; (try dsimp only at hSw); go_simp); (try (with_reducible rfl)); done)); (try simp only [List.getElem_toArray, List.getElem_cons_zero, List.getElem_cons_succ, Act.put, List.setIfInBounds_toArray, List.set_cons_zero, List.set_cons_succ]))
        (refine wpAnyH_take (i := 34) (v := ?_) rfl (by decide +kernel) (by decide +kernel) (by decide +kernel) (fun _ _ _ h => h) (Or.inl ⟨by rfl, ?_⟩) (by assumption) ?_; rotate_left; (focus ((intro w hSw; (try dsimp only at hSw); go_simp); (try (with_reducible rfl)); done)); (try simp only [List.getElem_toArray, List.getElem_cons_zero, List.getElem_cons_succ, Act.put, List.setIfInBounds_toArray, List.set_cons_zero, List.set_cons_succ]))
        (refine wpAnyH_take (i := 35) (v := ?_) rfl (by decide +kernel) (by decide +kernel) (by decide +kernel) (fun _ _ _ h => h) (Or.inl ⟨by rfl, ?_⟩) (by assumption) ?_; rotate_left; (focus ((intro w hSw; (try dsimp only at hSw); go_simp); (try (with_reducible rfl)); done)); (try simp only [List.getElem_toArray, List.getElem_cons_zero, List.getElem_cons_succ, Act.put, List.setIfInBounds_toArray, List.set_cons_zero, List.set_cons_succ]))
        refine wpAnyH_done (by decide +kernel) ?_ _
        go_wp2_with fail
        go_meet
        case rel => exact ⟨rfl, HW⟩
  case rest =>
    obtain ⟨rfl, hW⟩ := hcut
    replace HB := HB.up hW.hid
    replace HR := HR.up hW.hid
    replace HS := HS.up hW.hid
    replace rx := rx.up hW.hid
    replace nx := nx.up hW.hid
    replace HX := HX.up hW.hid
    replace HT := HT.up hW.hid
    replace HG := HG.up hW.hid
    replace HP := HP.up hW.hid
    replace ht := ht.up hW.hid
    replace hg := hg.up hW.hid
    replace hp := hp.up hW.hid
    clear HI hi hW CM CJ CZ
    have hx_0 := HX.c0
    have hx_1 := HX.c1
    have hx_2 := HX.c2
    have hx_l := HX.lt
    have hs_0 := HS.c0
    have hs_1 := HS.c1
    have hs_2 := HS.c2
    have hs_l := HS.lt
    go_upto_region 17 with (first | (go_at_call 14; (with_reducible refine (CA.out _ _ _ _ _ rx nx).mono ?_); rintro e wa ⟨uta, Vta, nta', cta', kta, rfl, hta, hbk⟩; (with_reducible (replace HB := HB.up hbk; replace HR := HR.up hbk; replace HS := HS.up hbk; replace rx := rx.up hbk; replace nx := nx.up hbk; replace HX := HX.up hbk; replace HT := HT.up hbk; replace HG := HG.up hbk; replace HP := HP.up hbk; replace ht := ht.up hbk; replace hg := hg.up hbk; replace hp := hp.up hbk)); clear hx_0 hx_1 hx_2 hx_l hs_0 hs_1 hs_2 hs_l; have hx_0 := HX.c0; have hx_1 := HX.c1; have hx_2 := HX.c2; have hx_l := HX.lt; have hs_0 := HS.c0; have hs_1 := HS.c1; have hs_2 := HS.c2; have hs_l := HS.lt) | (go_at_call 15; (with_reducible refine (CB.out _ _ _ _ _ (rx.al _) (nx.al _)).mono ?_); rintro e wb ⟨usb, Vsb, nsb', csb', ksb, rfl, hsb, hbk⟩; (with_reducible (have HA : At wb wa.heap.size [.bool uta, .slice Vta nta' cta', .int .i64 kta] := At.up (at_new0 _ _ _) hbk; replace HB := (HB.al _).up hbk; replace HR := (HR.al _).up hbk; replace HS := (HS.al _).up hbk; replace rx := (rx.al _).up hbk; replace nx := (nx.al _).up hbk; replace HX := (HX.al _).up hbk; replace HT := (HT.al _).up hbk; replace HG := (HG.al _).up hbk; replace HP := (HP.al _).up hbk; replace ht := (ht.al _).up hbk; replace hg := (hg.al _).up hbk; replace hp := (hp.al _).up hbk; replace hta := (hta.al _).up hbk)); clear hx_0 hx_1 hx_2 hx_l hs_0 hs_1 hs_2 hs_l; have hx_0 := HX.c0; have hx_1 := HX.c1; have hx_2 := HX.c2; have hx_l := HX.lt; have hs_0 := HS.c0; have hs_1 := HS.c1; have hs_2 := HS.c2; have hs_l := HS.lt) | (go_at_call 16; (with_reducible refine (CG.out _ (HB.al _)).mono ?_); rintro e wd ⟨rfl, hbk⟩; (with_reducible (have HQ : At wd wb.heap.size [.bool usb, .slice Vsb nsb' csb', .int .i64 ksb] := At.up (at_new0 _ _ _) hbk; replace HB := (HB.al _).up hbk; replace HR := (HR.al _).up hbk; replace HS := (HS.al _).up hbk; replace rx := (rx.al _).up hbk; replace nx := (nx.al _).up hbk; replace HX := (HX.al _).up hbk; replace HT := (HT.al _).up hbk; replace HG := (HG.al _).up hbk; replace HP := (HP.al _).up hbk; replace ht := (ht.al _).up hbk; replace hg := (hg.al _).up hbk; replace hp := (hp.al _).up hbk; replace hta := (hta.al _).up hbk; replace HA := (HA.al _).up hbk; replace hsb := (hsb.al _).up hbk)); clear hx_0 hx_1 hx_2 hx_l hs_0 hs_1 hs_2 hs_l) | fail)
    have nX : wd.heap.size ≠ qx := by have := HX.lt; omega
    have nS : wd.heap.size ≠ qs := by have := HS.lt; omega
    have nT : wd.heap.size ≠ qt := by have := HT.lt; omega
    have nG : wd.heap.size ≠ qg := by have := HG.lt; omega
    have nP : wd.heap.size ≠ qp := by have := HP.lt; omega
    have nA : wd.heap.size ≠ wa.heap.size := by have := HA.lt; omega
    have nQ : wd.heap.size ≠ wb.heap.size := by have := HQ.lt; omega
    have hzb : Hid (w.heap.size ≤ wd.heap.size) := Below.size HB
    refine wp_named ?_
    intro W9 hW9
    replace HB : Bel w W9 := by rw [hW9]; exact HB.al _
    replace HR : At W9 qr [.bool b1, .slice A1 n1 c1, .slice A2 n2 c2] := by rw [hW9]; exact HR.al _
    replace HS : At W9 qs [.bool b0, .slice A0 n0 c0, .int .i64 s0] := by rw [hW9]; exact HS.al _
    replace rx : Rz W9 sx Dx ex x.num := by rw [hW9]; exact rx.al _
    replace nx : Rn W9 Dx' ex' x.den := by rw [hW9]; exact nx.al _
    replace HX : At W9 qx [.bool sx, .slice Dx (dq x.num.natAbs) ex, .slice Dx' (dq x.den) ex'] := by rw [hW9]; exact HX.al _
    replace HT : At W9 qt [.bool ut, .slice Vt nt' ct', .int .i64 kt] := by rw [hW9]; exact HT.al _
    replace HG : At W9 qg [.bool ug, .slice Vg ng' cg', .int .i64 kg] := by rw [hW9]; exact HG.al _
    replace HP : At W9 qp [.bool up, .slice Vp np' cp', .int .i64 kp] := by rw [hW9]; exact HP.al _
    replace ht : KN W9 (decide (et = 0)) pt vt jt ut Vt nt' ct' kt := by rw [hW9]; exact ht.al _
    replace hg : KN W9 (decide (es = 0)) pg vg jg ug Vg ng' cg' kg := by rw [hW9]; exact hg.al _
    replace hp : KN W9 (decide (ep = 0)) pp vp jp up Vp np' cp' kp := by rw [hW9]; exact hp.al _
    replace HA : At W9 wa.heap.size [.bool uta, .slice Vta nta' cta', .int .i64 kta] := by rw [hW9]; exact HA.al _
    replace HQ : At W9 wb.heap.size [.bool usb, .slice Vsb nsb' csb', .int .i64 ksb] := by rw [hW9]; exact HQ.al _
    replace hta : KR W9 ka pt vt jt uta Vta nta' cta' kta := by rw [hW9]; exact hta.al _
    replace hsb : KR W9 (decide (es = 0)) pg vg jg usb Vsb nsb' csb' ksb := by rw [hW9]; exact hsb.al _
    have HZ : At W9 wd.heap.size [.bool false, .slice none 0 0, .int .i64 0] := by rw [hW9]; exact at_new0 _ _ _
    have EZ : Ez W9 wd.heap.size := by rw [hW9]; exact ez_newT _ _ _ _ _
    obtain ⟨qa, hqa⟩ : ∃ q, q = wa.heap.size := ⟨_, rfl⟩
    obtain ⟨qq, hqq⟩ : ∃ q, q = wb.heap.size := ⟨_, rfl⟩
    obtain ⟨qz, hqz⟩ : ∃ q, q = wd.heap.size := ⟨_, rfl⟩
    rw [← hqa] at HA
    rw [← hqq] at HQ
    rw [← hqz] at HZ
    rw [← hqz] at EZ hzb nX nS nT nG nP nA nQ
    rw [← hqa] at nA
    rw [← hqq] at nQ
    rw [← hqa, ← hqq, ← hqz]
    clear hW9 hqa hqq hqz CA CB CG hM
    cases gd with
    | false =>
      obtain ⟨rfl, rfl⟩ : kb = false ∧ ep = 1 := by
        rcases hP with ⟨h1, h2⟩ | ⟨h1, h2⟩
        · rw [hgd rfl] at h1; cases h1
        · exact ⟨h1, h2⟩
      clear hP hgd CC CV EZ hzb nX nS nT nG nP nA nQ
      rcases hT with ⟨rfl, rfl⟩ | ⟨rfl, rfl⟩ <;> rcases hE with rfl | rfl | rfl
      · obtain ⟨e1, e2, e3, m1⟩ := ht (by decide)
        subst ut
        subst nt'
        subst kt
        obtain ⟨f1, f2, f3, m2'⟩ := hta rfl
        subst uta
        subst nta'
        subst kta
        obtain ⟨g1, g2, g3, m3⟩ := hg (by decide)
        subst ug
        subst ng'
        subst kg
        obtain ⟨i1, i2, i3, m4⟩ := hsb (by decide)
        subst usb
        subst nsb'
        subst ksb
        have ht_0 := HT.c0
        have ht_1 := HT.c1
        have ht_2 := HT.c2
        have ht_l := HT.lt
        have ha_0 := HA.c0
        have ha_1 := HA.c1
        have ha_2 := HA.c2
        have ha_l := HA.lt
        have hg_0 := HG.c0
        have hg_1 := HG.c1
        have hg_2 := HG.c2
        have hg_l := HG.lt
        have hq_0 := HQ.c0
        have hq_1 := HQ.c1
        have hq_2 := HQ.c2
        have hq_l := HQ.lt
        have hp_0 := HP.c0
        have hp_1 := HP.c1
        have hp_2 := HP.c2
        have hp_l := HP.lt
        have hz_0 := HZ.c0
        have hz_1 := HZ.c1
        have hz_2 := HZ.c2
        have hz_l := HZ.lt
        go_wp2_with (first | (go_at_call 19; (with_reducible refine (CD1.out _ _ _ _ _ (by trivial) m1 m2').mono ?_); rintro e z1 ⟨rfl, hbk⟩; (with_reducible (replace HB := HB.up hbk; replace m1 := m1.up hbk; replace m2' := m2'.up hbk; replace m3 := m3.up hbk; replace m4 := m4.up hbk; replace HT := HT.up hbk; replace HA := HA.up hbk; replace HG := HG.up hbk; replace HQ := HQ.up hbk; replace HP := HP.up hbk; replace HZ := HZ.up hbk)); clear ht_0 ht_1 ht_2 ht_l ha_0 ha_1 ha_2 ha_l hg_0 hg_1 hg_2 hg_l hq_0 hq_1 hq_2 hq_l hp_0 hp_1 hp_2 hp_l hz_0 hz_1 hz_2 hz_l; have ht_0 := HT.c0; have ht_1 := HT.c1; have ht_2 := HT.c2; have ht_l := HT.lt; have ha_0 := HA.c0; have ha_1 := HA.c1; have ha_2 := HA.c2; have ha_l := HA.lt; have hg_0 := HG.c0; have hg_1 := HG.c1; have hg_2 := HG.c2; have hg_l := HG.lt; have hq_0 := HQ.c0; have hq_1 := HQ.c1; have hq_2 := HQ.c2; have hq_l := HQ.lt; have hp_0 := HP.c0; have hp_1 := HP.c1; have hp_2 := HP.c2; have hp_l := HP.lt; have hz_0 := HZ.c0; have hz_1 := HZ.c1; have hz_2 := HZ.c2; have hz_l := HZ.lt) | (go_at_call 19; (with_reducible refine (CD2.out _ _ _ _ _ (by trivial) m3 m4).mono ?_); rintro e z2 ⟨rfl, hbk⟩; (with_reducible (replace HB := HB.up hbk; replace m1 := m1.up hbk; replace m2' := m2'.up hbk; replace m3 := m3.up hbk; replace m4 := m4.up hbk; replace HT := HT.up hbk; replace HA := HA.up hbk; replace HG := HG.up hbk; replace HQ := HQ.up hbk; replace HP := HP.up hbk; replace HZ := HZ.up hbk)); clear ht_0 ht_1 ht_2 ht_l ha_0 ha_1 ha_2 ha_l hg_0 hg_1 hg_2 hg_l hq_0 hq_1 hq_2 hq_l hp_0 hp_1 hp_2 hp_l hz_0 hz_1 hz_2 hz_l; have ht_0 := HT.c0; have ht_1 := HT.c1; have ht_2 := HT.c2; have ht_l := HT.lt; have ha_0 := HA.c0; have ha_1 := HA.c1; have ha_2 := HA.c2; have ha_l := HA.lt; have hg_0 := HG.c0; have hg_1 := HG.c1; have hg_2 := HG.c2; have hg_l := HG.lt; have hq_0 := HQ.c0; have hq_1 := HQ.c1; have hq_2 := HQ.c2; have hq_l := HQ.lt; have hp_0 := HP.c0; have hp_1 := HP.c1; have hp_2 := HP.c2; have hp_l := HP.lt; have hz_0 := HZ.c0; have hz_1 := HZ.c1; have hz_2 := HZ.c2; have hz_l := HZ.lt) | fail)
        go_ret
        exact ⟨rfl, HB⟩
      · obtain ⟨e1, e2, e3, m1⟩ := ht (by decide)
        subst ut
        subst nt'
        subst kt
        obtain ⟨f1, f2, f3, m2'⟩ := hta rfl
        subst uta
        subst nta'
        subst kta
        have ht_0 := HT.c0
        have ht_1 := HT.c1
        have ht_2 := HT.c2
        have ht_l := HT.lt
        have ha_0 := HA.c0
        have ha_1 := HA.c1
        have ha_2 := HA.c2
        have ha_l := HA.lt
        have hg_0 := HG.c0
        have hg_1 := HG.c1
        have hg_2 := HG.c2
        have hg_l := HG.lt
        have hq_0 := HQ.c0
        have hq_1 := HQ.c1
        have hq_2 := HQ.c2
        have hq_l := HQ.lt
        have hp_0 := HP.c0
        have hp_1 := HP.c1
        have hp_2 := HP.c2
        have hp_l := HP.lt
        have hz_0 := HZ.c0
        have hz_1 := HZ.c1
        have hz_2 := HZ.c2
        have hz_l := HZ.lt
        go_wp2_with (first | (go_at_call 19; (with_reducible refine (CD1.out _ _ _ _ _ (by trivial) m1 m2').mono ?_); rintro e z1 ⟨rfl, hbk⟩; (with_reducible (replace HB := HB.up hbk; replace m1 := m1.up hbk; replace m2' := m2'.up hbk; replace HT := HT.up hbk; replace HA := HA.up hbk; replace HG := HG.up hbk; replace HQ := HQ.up hbk; replace HP := HP.up hbk; replace HZ := HZ.up hbk)); clear ht_0 ht_1 ht_2 ht_l ha_0 ha_1 ha_2 ha_l hg_0 hg_1 hg_2 hg_l hq_0 hq_1 hq_2 hq_l hp_0 hp_1 hp_2 hp_l hz_0 hz_1 hz_2 hz_l; have ht_0 := HT.c0; have ht_1 := HT.c1; have ht_2 := HT.c2; have ht_l := HT.lt; have ha_0 := HA.c0; have ha_1 := HA.c1; have ha_2 := HA.c2; have ha_l := HA.lt; have hg_0 := HG.c0; have hg_1 := HG.c1; have hg_2 := HG.c2; have hg_l := HG.lt; have hq_0 := HQ.c0; have hq_1 := HQ.c1; have hq_2 := HQ.c2; have hq_l := HQ.lt; have hp_0 := HP.c0; have hp_1 := HP.c1; have hp_2 := HP.c2; have hp_l := HP.lt; have hz_0 := HZ.c0; have hz_1 := HZ.c1; have hz_2 := HZ.c2; have hz_l := HZ.lt) | fail)
        go_ret
        exact ⟨rfl, HB⟩
      · obtain ⟨e1, e2, e3, m1⟩ := ht (by decide)
        subst ut
        subst nt'
        subst kt
        obtain ⟨f1, f2, f3, m2'⟩ := hta rfl
        subst uta
        subst nta'
        subst kta
        have ht_0 := HT.c0
        have ht_1 := HT.c1
        have ht_2 := HT.c2
        have ht_l := HT.lt
        have ha_0 := HA.c0
        have ha_1 := HA.c1
        have ha_2 := HA.c2
        have ha_l := HA.lt
        have hg_0 := HG.c0
        have hg_1 := HG.c1
        have hg_2 := HG.c2
        have hg_l := HG.lt
        have hq_0 := HQ.c0
        have hq_1 := HQ.c1
        have hq_2 := HQ.c2
        have hq_l := HQ.lt
        have hp_0 := HP.c0
        have hp_1 := HP.c1
        have hp_2 := HP.c2
        have hp_l := HP.lt
        have hz_0 := HZ.c0
        have hz_1 := HZ.c1
        have hz_2 := HZ.c2
        have hz_l := HZ.lt
        go_wp2_with (first | (go_at_call 19; (with_reducible refine (CD1.out _ _ _ _ _ (by trivial) m1 m2').mono ?_); rintro e z1 ⟨rfl, hbk⟩; (with_reducible (replace HB := HB.up hbk; replace m1 := m1.up hbk; replace m2' := m2'.up hbk; replace HT := HT.up hbk; replace HA := HA.up hbk; replace HG := HG.up hbk; replace HQ := HQ.up hbk; replace HP := HP.up hbk; replace HZ := HZ.up hbk)); clear ht_0 ht_1 ht_2 ht_l ha_0 ha_1 ha_2 ha_l hg_0 hg_1 hg_2 hg_l hq_0 hq_1 hq_2 hq_l hp_0 hp_1 hp_2 hp_l hz_0 hz_1 hz_2 hz_l; have ht_0 := HT.c0; have ht_1 := HT.c1; have ht_2 := HT.c2; have ht_l := HT.lt; have ha_0 := HA.c0; have ha_1 := HA.c1; have ha_2 := HA.c2; have ha_l := HA.lt; have hg_0 := HG.c0; have hg_1 := HG.c1; have hg_2 := HG.c2; have hg_l := HG.lt; have hq_0 := HQ.c0; have hq_1 := HQ.c1; have hq_2 := HQ.c2; have hq_l := HQ.lt; have hp_0 := HP.c0; have hp_1 := HP.c1; have hp_2 := HP.c2; have hp_l := HP.lt; have hz_0 := HZ.c0; have hz_1 := HZ.c1; have hz_2 := HZ.c2; have hz_l := HZ.lt) | fail)
        go_ret
        exact ⟨rfl, HB⟩
      · obtain ⟨g1, g2, g3, m3⟩ := hg (by decide)
        subst ug
        subst ng'
        subst kg
        obtain ⟨i1, i2, i3, m4⟩ := hsb (by decide)
        subst usb
        subst nsb'
        subst ksb
        have ht_0 := HT.c0
        have ht_1 := HT.c1
        have ht_2 := HT.c2
        have ht_l := HT.lt
        have ha_0 := HA.c0
        have ha_1 := HA.c1
        have ha_2 := HA.c2
        have ha_l := HA.lt
        have hg_0 := HG.c0
        have hg_1 := HG.c1
        have hg_2 := HG.c2
        have hg_l := HG.lt
        have hq_0 := HQ.c0
        have hq_1 := HQ.c1
        have hq_2 := HQ.c2
        have hq_l := HQ.lt
        have hp_0 := HP.c0
        have hp_1 := HP.c1
        have hp_2 := HP.c2
        have hp_l := HP.lt
        have hz_0 := HZ.c0
        have hz_1 := HZ.c1
        have hz_2 := HZ.c2
        have hz_l := HZ.lt
        go_wp2_with (first | (go_at_call 19; (with_reducible refine (CD2.out _ _ _ _ _ (by trivial) m3 m4).mono ?_); rintro e z2 ⟨rfl, hbk⟩; (with_reducible (replace HB := HB.up hbk; replace m3 := m3.up hbk; replace m4 := m4.up hbk; replace HT := HT.up hbk; replace HA := HA.up hbk; replace HG := HG.up hbk; replace HQ := HQ.up hbk; replace HP := HP.up hbk; replace HZ := HZ.up hbk)); clear ht_0 ht_1 ht_2 ht_l ha_0 ha_1 ha_2 ha_l hg_0 hg_1 hg_2 hg_l hq_0 hq_1 hq_2 hq_l hp_0 hp_1 hp_2 hp_l hz_0 hz_1 hz_2 hz_l; have ht_0 := HT.c0; have ht_1 := HT.c1; have ht_2 := HT.c2; have ht_l := HT.lt; have ha_0 := HA.c0; have ha_1 := HA.c1; have ha_2 := HA.c2; have ha_l := HA.lt; have hg_0 := HG.c0; have hg_1 := HG.c1; have hg_2 := HG.c2; have hg_l := HG.lt; have hq_0 := HQ.c0; have hq_1 := HQ.c1; have hq_2 := HQ.c2; have hq_l := HQ.lt; have hp_0 := HP.c0; have hp_1 := HP.c1; have hp_2 := HP.c2; have hp_l := HP.lt; have hz_0 := HZ.c0; have hz_1 := HZ.c1; have hz_2 := HZ.c2; have hz_l := HZ.lt) | fail)
        go_ret
        exact ⟨rfl, HB⟩
      · have ht_0 := HT.c0
        have ht_1 := HT.c1
        have ht_2 := HT.c2
        have ht_l := HT.lt
        have ha_0 := HA.c0
        have ha_1 := HA.c1
        have ha_2 := HA.c2
        have ha_l := HA.lt
        have hg_0 := HG.c0
        have hg_1 := HG.c1
        have hg_2 := HG.c2
        have hg_l := HG.lt
        have hq_0 := HQ.c0
        have hq_1 := HQ.c1
        have hq_2 := HQ.c2
        have hq_l := HQ.lt
        have hp_0 := HP.c0
        have hp_1 := HP.c1
        have hp_2 := HP.c2
        have hp_l := HP.lt
        have hz_0 := HZ.c0
        have hz_1 := HZ.c1
        have hz_2 := HZ.c2
        have hz_l := HZ.lt
        go_wp2_with fail
        go_ret
        exact ⟨rfl, HB⟩
      · have ht_0 := HT.c0
        have ht_1 := HT.c1
        have ht_2 := HT.c2
        have ht_l := HT.lt
        have ha_0 := HA.c0
        have ha_1 := HA.c1
        have ha_2 := HA.c2
        have ha_l := HA.lt
        have hg_0 := HG.c0
        have hg_1 := HG.c1
        have hg_2 := HG.c2
        have hg_l := HG.lt
        have hq_0 := HQ.c0
        have hq_1 := HQ.c1
        have hq_2 := HQ.c2
        have hq_l := HQ.lt
        have hp_0 := HP.c0
        have hp_1 := HP.c1
        have hp_2 := HP.c2
        have hp_l := HP.lt
        have hz_0 := HZ.c0
        have hz_1 := HZ.c1
        have hz_2 := HZ.c2
        have hz_l := HZ.lt
        go_wp2_with fail
        go_ret
        exact ⟨rfl, HB⟩
    | true =>
      clear hgd
      go_upto_region 18 with fail
      replace HB := HB.dr
      replace HX := HX.dr
      replace HS := HS.dr
      replace rx := rx.dr
      replace nx := nx.dr
      replace HT := HT.dr
      replace HG := HG.dr
      replace HP := HP.dr
      replace HA := HA.dr
      replace HQ := HQ.dr
      replace HZ := HZ.dr
      replace EZ := EZ.dr
      replace ht := ht.dr
      replace hg := hg.dr
      replace hp := hp.dr
      replace hta := hta.dr
      replace hsb := hsb.dr
      refine wp_region_held_drew (S := fun w' => w'.cell? ⟨qx, 0, none⟩ = some (.bool sx) ∧ w'.cell? ⟨qx, 1, none⟩ = some (.slice Dx (dq x.num.natAbs) ex) ∧ w'.cell? ⟨qx, 2, none⟩ = some (.slice Dx' (dq x.den) ex') ∧ w'.cell? ⟨qs, 0, none⟩ = some (.bool b0) ∧ w'.cell? ⟨qs, 1, none⟩ = some (.slice A0 n0 c0) ∧ w'.cell? ⟨qs, 2, none⟩ = some (.int .i64 s0)) (by kernel_rfl) ?_ (fun hHeld => ?_)
      · exact ⟨HX.c0, HX.c1, HX.c2, HS.c0, HS.c1, HS.c2⟩
      generalize W9.drew = Wd at *
      (refine wpAnyH_take (i := 0) (v := ?_) rfl (by decide +kernel) (by decide +kernel) (by decide +kernel) (fun _ _ _ h => h) (Or.inl ⟨by rfl, ?_⟩) (by assumption) ?_; rotate_left; (focus ((intro w hSw; (try dsimp only at hSw); go_simp); (try (with_reducible rfl)); done)); (try simp only [List.getElem_toArray, List.getElem_cons_zero, List.getElem_cons_succ, Act.put, List.setIfInBounds_toArray, List.set_cons_zero, List.set_cons_succ]))
      (refine wpAnyH_take (i := 1) (v := ?_) rfl (by decide +kernel) (by decide +kernel) (by decide +kernel) (fun _ _ _ h => h) (Or.inl ⟨by rfl, ?_⟩) (by assumption) ?_; rotate_left; (focus ((intro w hSw; (try dsimp only at hSw); go_simp); (try (with_reducible rfl)); done)); (try simp only [List.getElem_toArray, List.getElem_cons_zero, List.getElem_cons_succ, Act.put, List.setIfInBounds_toArray, List.set_cons_zero, List.set_cons_succ]))
      (refine wpAnyH_take (i := 2) (v := ?_) rfl (by decide +kernel) (by decide +kernel) (by decide +kernel) (fun _ _ _ h => h) (Or.inl ⟨by rfl, ?_⟩) (by assumption) ?_; rotate_left; (focus ((intro w hSw; (try dsimp only at hSw); go_simp); (try (with_reducible rfl)); done)); (try simp only [List.getElem_toArray, List.getElem_cons_zero, List.getElem_cons_succ, Act.put, List.setIfInBounds_toArray, List.set_cons_zero, List.set_cons_succ]))
      (refine wpAnyH_take (i := 3) (v := ?_) rfl (by decide +kernel) (by decide +kernel) (by decide +kernel) (fun _ _ _ h => h) (Or.inl ⟨by rfl, ?_⟩) (by assumption) ?_; rotate_left; (focus ((intro w hSw; (try dsimp only at hSw); go_simp); (try (with_reducible rfl)); done)); (try simp only [List.getElem_toArray, List.getElem_cons_zero, List.getElem_cons_succ, Act.put, List.setIfInBounds_toArray, List.set_cons_zero, List.set_cons_succ]))
      (refine wpAnyH_take (i := 4) (v := ?_) rfl (by decide +kernel) (by decide +kernel) (by decide +kernel) (fun _ _ _ h => h) (Or.inl ⟨by rfl, ?_⟩) (by assumption) ?_; rotate_left; (focus ((intro w hSw; (try dsimp only at hSw); go_simp); (try (with_reducible rfl)); done)); (try simp only [List.getElem_toArray, List.getElem_cons_zero, List.getElem_cons_succ, Act.put, List.setIfInBounds_toArray, List.set_cons_zero, List.set_cons_succ]))
      (refine wpAnyH_take (i := 5) (v := ?_) rfl (by decide +kernel) (by decide +kernel) (by decide +kernel) (fun _ _ _ h => h) (Or.inl ⟨by rfl, ?_⟩) (by assumption) ?_; rotate_left; (focus ((intro w hSw; (try dsimp only at hSw); go_simp); (try (with_reducible rfl)); done)); (try simp only [List.getElem_toArray, List.getElem_cons_zero, List.getElem_cons_succ, Act.put, List.setIfInBounds_toArray, List.set_cons_zero, List.set_cons_succ]))
      (refine wpAnyH_take (i := 7) (v := ?_) rfl (by decide +kernel) (by decide +kernel) (by decide +kernel) (fun _ _ _ h => h) (Or.inl ⟨by rfl, ?_⟩) (by assumption) ?_; rotate_left; (focus ((intro w hSw; (try dsimp only at hSw); go_simp); (try (with_reducible rfl)); done)); (try simp only [List.getElem_toArray, List.getElem_cons_zero, List.getElem_cons_succ, Act.put, List.setIfInBounds_toArray, List.set_cons_zero, List.set_cons_succ]))
      (refine wpAnyH_take (i := 8) (v := ?_) rfl (by decide +kernel) (by decide +kernel) (by decide +kernel) (fun _ _ _ h => h) (Or.inl ⟨by rfl, ?_⟩) (by assumption) ?_; rotate_left; (focus ((intro w hSw; (try dsimp only at hSw); go_simp); (try (with_reducible rfl)); done)); (try simp only [List.getElem_toArray, List.getElem_cons_zero, List.getElem_cons_succ, Act.put, List.setIfInBounds_toArray, List.set_cons_zero, List.set_cons_succ]))
      (refine wpAnyH_take (i := 10) (v := ?_) rfl (by decide +kernel) (by decide +kernel) (by decide +kernel) (fun _ _ _ h => h) (Or.inl ⟨by rfl, ?_⟩) (by assumption) ?_; rotate_left; (focus ((intro w hSw; (try dsimp only at hSw); go_simp); (try (with_reducible rfl)); done)); (try simp only [List.getElem_toArray, List.getElem_cons_zero, List.getElem_cons_succ, Act.put, List.setIfInBounds_toArray, List.set_cons_zero, List.set_cons_succ]))
      (refine wpAnyH_ready (rs := [6]) (by decide +kernel) (by simp) ?_; refine AllReadyH.cons rfl (fun K hK => ?_) AllReadyH.nil; go_simp; (go_at_call 18; (with_reducible refine (CV.out _ HB).mono ?_); rintro e y1 ⟨D, f', rfl, rd, hbk⟩; (with_reducible (replace HB := HB.up hbk; replace HX := HX.up hbk; replace HS := HS.up hbk; replace rx := rx.up hbk; replace nx := nx.up hbk; replace HT := HT.up hbk; replace HG := HG.up hbk; replace HP := HP.up hbk; replace HA := HA.up hbk; replace HQ := HQ.up hbk; replace HZ := HZ.up hbk; replace EZ := EZ.up hbk; replace ht := ht.up hbk; replace hg := hg.up hbk; replace hp := hp.up hbk; replace hta := hta.up hbk; replace hsb := hsb.up hbk))); (try (go_wp2_with fail)); refine hK.out _ _ ?_ (fun hHeld => ?_); (focus ((try dsimp only); (first | (with_reducible exact ⟨HX.c0, HX.c1, HX.c2, HS.c0, HS.c1, HS.c2⟩) | (with_reducible exact ⟨(((HX.far nX _).far nX _).far nX _).c0, (((HX.far nX _).far nX _).far nX _).c1, (((HX.far nX _).far nX _).far nX _).c2, (((HS.far nS _).far nS _).far nS _).c0, (((HS.far nS _).far nS _).far nS _).c1, (((HS.far nS _).far nS _).far nS _).c2⟩) | fail))); clear hK K; (try simp only [List.getElem_toArray, List.getElem_cons_zero, List.getElem_cons_succ, Act.put, List.setIfInBounds_toArray, List.set_cons_zero, List.set_cons_succ]))
      (refine wpAnyH_take (i := 9) (v := ?_) rfl (by decide +kernel) (by decide +kernel) (by decide +kernel) (fun _ _ _ h => h) (Or.inl ⟨by rfl, ?_⟩) (by assumption) ?_; rotate_left; (focus ((intro w hSw; (try dsimp only at hSw); go_simp); (try (with_reducible rfl)); done)); (try simp only [List.getElem_toArray, List.getElem_cons_zero, List.getElem_cons_succ, Act.put, List.setIfInBounds_toArray, List.set_cons_zero, List.set_cons_succ]))
      (refine wpAnyH_ready (rs := [11]) (by decide +kernel) (by simp) ?_; refine AllReadyH.cons rfl (fun K hK => ?_) AllReadyH.nil; go_simp; (go_at_call 17; (with_reducible refine (CC.out _ _ _ _ _ _ _ (by trivial) rx nx rd).mono ?_); rintro e y2 ⟨uz, Vz, nz', cz', kz, rfl, hz, hbk⟩; (with_reducible (replace HB := HB.up hbk; replace HX := HX.up hbk; replace HS := HS.up hbk; replace HT := HT.up hbk; replace HG := HG.up hbk; replace HP := HP.up hbk; replace HA := HA.up hbk; replace HQ := HQ.up hbk; replace HZ := HZ.up hbk; replace EZ := EZ.up hbk; replace ht := ht.up hbk; replace hg := hg.up hbk; replace hp := hp.up hbk; replace hta := hta.up hbk; replace hsb := hsb.up hbk)); have hz_0 := HZ.c0; have hz_1 := HZ.c1; have hz_2 := HZ.c2; have hz_l := HZ.lt; have hz_f0 := HZ.f0; have hz_f1 := HZ.f1; have hz_f2 := HZ.f2); (try (go_wp2_with fail)); refine hK.out _ _ ?_ (fun hHeld => ?_); (focus ((try dsimp only); (first | (with_reducible exact ⟨HX.c0, HX.c1, HX.c2, HS.c0, HS.c1, HS.c2⟩) | (with_reducible exact ⟨(((HX.far nX _).far nX _).far nX _).c0, (((HX.far nX _).far nX _).far nX _).c1, (((HX.far nX _).far nX _).far nX _).c2, (((HS.far nS _).far nS _).far nS _).c0, (((HS.far nS _).far nS _).far nS _).c1, (((HS.far nS _).far nS _).far nS _).c2⟩) | fail))); clear hK K; (try simp only [List.getElem_toArray, List.getElem_cons_zero, List.getElem_cons_succ, Act.put, List.setIfInBounds_toArray, List.set_cons_zero, List.set_cons_succ]))
      (refine wpAnyH_take (i := 12) (v := ?_) rfl (by decide +kernel) (by decide +kernel) (by decide +kernel) (fun _ _ _ h => h) (Or.inl ⟨by rfl, ?_⟩) (by assumption) ?_; rotate_left; (focus ((intro w hSw; (try dsimp only at hSw); go_simp); (try (with_reducible rfl)); done)); (try simp only [List.getElem_toArray, List.getElem_cons_zero, List.getElem_cons_succ, Act.put, List.setIfInBounds_toArray, List.set_cons_zero, List.set_cons_succ]))
      (refine wpAnyH_take (i := 13) (v := ?_) rfl (by decide +kernel) (by decide +kernel) (by decide +kernel) (fun _ _ _ h => h) (Or.inl ⟨by rfl, ?_⟩) (by assumption) ?_; rotate_left; (focus ((intro w hSw; (try dsimp only at hSw); go_simp); (try (with_reducible rfl)); done)); (try simp only [List.getElem_toArray, List.getElem_cons_zero, List.getElem_cons_succ, Act.put, List.setIfInBounds_toArray, List.set_cons_zero, List.set_cons_succ]))
      (refine wpAnyH_take (i := 14) (v := ?_) rfl (by decide +kernel) (by decide +kernel) (by decide +kernel) (fun _ _ _ h => h) (Or.inl ⟨by rfl, ?_⟩) (by assumption) ?_; rotate_left; (focus ((intro w hSw; (try dsimp only at hSw); go_simp); (try (with_reducible rfl)); done)); (try simp only [List.getElem_toArray, List.getElem_cons_zero, List.getElem_cons_succ, Act.put, List.setIfInBounds_toArray, List.set_cons_zero, List.set_cons_succ]))
      (refine wpAnyH_ready (rs := [15]) (by decide +kernel) (by simp) ?_; refine AllReadyH.cons rfl (fun K hK => ?_) AllReadyH.nil; go_simp; refine hK.out _ _ ?_ (fun hHeld => ?_); (focus ((try dsimp only); (first | (with_reducible exact ⟨HX.c0, HX.c1, HX.c2, HS.c0, HS.c1, HS.c2⟩) | (with_reducible exact ⟨(((HX.far nX _).far nX _).far nX _).c0, (((HX.far nX _).far nX _).far nX _).c1, (((HX.far nX _).far nX _).far nX _).c2, (((HS.far nS _).far nS _).far nS _).c0, (((HS.far nS _).far nS _).far nS _).c1, (((HS.far nS _).far nS _).far nS _).c2⟩) | fail))); clear hK K; (try simp only [List.getElem_toArray, List.getElem_cons_zero, List.getElem_cons_succ, Act.put, List.setIfInBounds_toArray, List.set_cons_zero, List.set_cons_succ]))
      (refine wpAnyH_take (i := 16) (v := ?_) rfl (by decide +kernel) (by decide +kernel) (by decide +kernel) (fun _ _ _ h => h) (Or.inl ⟨by rfl, ?_⟩) (by assumption) ?_; rotate_left; (focus ((intro w hSw; (try dsimp only at hSw); go_simp); (try (with_reducible rfl)); done)); (try simp only [List.getElem_toArray, List.getElem_cons_zero, List.getElem_cons_succ, Act.put, List.setIfInBounds_toArray, List.set_cons_zero, List.set_cons_succ]))
      refine wpAnyH_done (by decide +kernel) ?_ _
      clear hz_0 hz_1 hz_2 hz_l hz_f0 hz_f1 hz_f2
      go_upto_region 19 with fail
      refine wp_named ?_
      intro Wx hWx
      have z0 := HZ.c0
      have z1 := HZ.c1
      have z2 := HZ.c2
      have z3 := EZ.2
      replace HT : At Wx qt [.bool ut, .slice Vt nt' ct', .int .i64 kt] := by rw [hWx]; exact (((HT.far nT _).far nT _).far nT _)
      replace HG : At Wx qg [.bool ug, .slice Vg ng' cg', .int .i64 kg] := by rw [hWx]; exact (((HG.far nG _).far nG _).far nG _)
      replace HP : At Wx qp [.bool up, .slice Vp np' cp', .int .i64 kp] := by rw [hWx]; exact (((HP.far nP _).far nP _).far nP _)
      replace HA : At Wx qa [.bool uta, .slice Vta nta' cta', .int .i64 kta] := by rw [hWx]; exact (((HA.far nA _).far nA _).far nA _)
      replace HQ : At Wx qq [.bool usb, .slice Vsb nsb' csb', .int .i64 ksb] := by rw [hWx]; exact (((HQ.far nQ _).far nQ _).far nQ _)
      replace HB : Bel w Wx := by rw [hWx]; exact below3 HB hzb.out _ _ _
      replace ht : KN Wx (decide (et = 0)) pt vt jt ut Vt nt' ct' kt := fun e => ⟨(ht e).1, (ht e).2.1, (ht e).2.2.1, by rw [hWx]; exact nm_dbox (ht e).2.2.2 z0 z1 z2 _ _ _ _ _⟩
      replace hg : KN Wx (decide (es = 0)) pg vg jg ug Vg ng' cg' kg := fun e => ⟨(hg e).1, (hg e).2.1, (hg e).2.2.1, by rw [hWx]; exact nm_dbox (hg e).2.2.2 z0 z1 z2 _ _ _ _ _⟩
      replace hp : KN Wx (decide (ep = 0)) pp vp jp up Vp np' cp' kp := fun e => ⟨(hp e).1, (hp e).2.1, (hp e).2.2.1, by rw [hWx]; exact nm_dbox (hp e).2.2.2 z0 z1 z2 _ _ _ _ _⟩
      replace hta : KR Wx ka pt vt jt uta Vta nta' cta' kta := fun e => ⟨(hta e).1, (hta e).2.1, (hta e).2.2.1, by rw [hWx]; exact rn_dbox (hta e).2.2.2 z0 z1 z2 z3 _ _ _ _ _⟩
      replace hsb : KR Wx (decide (es = 0)) pg vg jg usb Vsb nsb' csb' ksb := fun e => ⟨(hsb e).1, (hsb e).2.1, (hsb e).2.2.1, by rw [hWx]; exact rn_dbox (hsb e).2.2.2 z0 z1 z2 z3 _ _ _ _ _⟩
      replace hz : KR Wx kb pp vp jp uz Vz nz' cz' kz := fun e => ⟨(hz e).1, (hz e).2.1, (hz e).2.2.1, by rw [hWx]; exact rn_dbox (hz e).2.2.2 z0 z1 z2 z3 _ _ _ _ _⟩
      replace HZ : At Wx qz [.bool uz, .slice Vz nz' cz', .int .i64 kz] := by rw [hWx]; exact HZ.put3 _ _ _
      clear hWx z0 z1 z2 z3 EZ hzb nX nS nT nG nP nA nQ HX HS CC CV
      rcases hP with ⟨rfl, rfl⟩ | ⟨rfl, rfl⟩
      · rcases hT with ⟨rfl, rfl⟩ | ⟨rfl, rfl⟩ <;> rcases hE with rfl | rfl | rfl
        · obtain ⟨e1, e2, e3, m1⟩ := ht (by decide)
          subst ut
          subst nt'
          subst kt
          obtain ⟨f1, f2, f3, m2'⟩ := hta rfl
          subst uta
          subst nta'
          subst kta
          obtain ⟨g1, g2, g3, m3⟩ := hg (by decide)
          subst ug
          subst ng'
          subst kg
          obtain ⟨i1, i2, i3, m4⟩ := hsb (by decide)
          subst usb
          subst nsb'
          subst ksb
          obtain ⟨j1, j2, j3, m5⟩ := hp (by decide)
          subst up
          subst np'
          subst kp
          obtain ⟨l1, l2, l3, m6⟩ := hz rfl
          subst uz
          subst nz'
          subst kz
          have ht_0 := HT.c0
          have ht_1 := HT.c1
          have ht_2 := HT.c2
          have ht_l := HT.lt
          have ha_0 := HA.c0
          have ha_1 := HA.c1
          have ha_2 := HA.c2
          have ha_l := HA.lt
          have hg_0 := HG.c0
          have hg_1 := HG.c1
          have hg_2 := HG.c2
          have hg_l := HG.lt
          have hq_0 := HQ.c0
          have hq_1 := HQ.c1
          have hq_2 := HQ.c2
          have hq_l := HQ.lt
          have hp_0 := HP.c0
          have hp_1 := HP.c1
          have hp_2 := HP.c2
          have hp_l := HP.lt
          have hz_0 := HZ.c0
          have hz_1 := HZ.c1
          have hz_2 := HZ.c2
          have hz_l := HZ.lt
          go_wp2_with (first | (go_at_call 19; (with_reducible refine (CD1.out _ _ _ _ _ (by trivial) m1 m2').mono ?_); rintro e z1 ⟨rfl, hbk⟩; (with_reducible (replace HB := HB.up hbk; replace m1 := m1.up hbk; replace m2' := m2'.up hbk; replace m3 := m3.up hbk; replace m4 := m4.up hbk; replace m5 := m5.up hbk; replace m6 := m6.up hbk; replace HT := HT.up hbk; replace HA := HA.up hbk; replace HG := HG.up hbk; replace HQ := HQ.up hbk; replace HP := HP.up hbk; replace HZ := HZ.up hbk)); clear ht_0 ht_1 ht_2 ht_l ha_0 ha_1 ha_2 ha_l hg_0 hg_1 hg_2 hg_l hq_0 hq_1 hq_2 hq_l hp_0 hp_1 hp_2 hp_l hz_0 hz_1 hz_2 hz_l; have ht_0 := HT.c0; have ht_1 := HT.c1; have ht_2 := HT.c2; have ht_l := HT.lt; have ha_0 := HA.c0; have ha_1 := HA.c1; have ha_2 := HA.c2; have ha_l := HA.lt; have hg_0 := HG.c0; have hg_1 := HG.c1; have hg_2 := HG.c2; have hg_l := HG.lt; have hq_0 := HQ.c0; have hq_1 := HQ.c1; have hq_2 := HQ.c2; have hq_l := HQ.lt; have hp_0 := HP.c0; have hp_1 := HP.c1; have hp_2 := HP.c2; have hp_l := HP.lt; have hz_0 := HZ.c0; have hz_1 := HZ.c1; have hz_2 := HZ.c2; have hz_l := HZ.lt) | (go_at_call 19; (with_reducible refine (CD2.out _ _ _ _ _ (by trivial) m3 m4).mono ?_); rintro e z2 ⟨rfl, hbk⟩; (with_reducible (replace HB := HB.up hbk; replace m1 := m1.up hbk; replace m2' := m2'.up hbk; replace m3 := m3.up hbk; replace m4 := m4.up hbk; replace m5 := m5.up hbk; replace m6 := m6.up hbk; replace HT := HT.up hbk; replace HA := HA.up hbk; replace HG := HG.up hbk; replace HQ := HQ.up hbk; replace HP := HP.up hbk; replace HZ := HZ.up hbk)); clear ht_0 ht_1 ht_2 ht_l ha_0 ha_1 ha_2 ha_l hg_0 hg_1 hg_2 hg_l hq_0 hq_1 hq_2 hq_l hp_0 hp_1 hp_2 hp_l hz_0 hz_1 hz_2 hz_l; have ht_0 := HT.c0; have ht_1 := HT.c1; have ht_2 := HT.c2; have ht_l := HT.lt; have ha_0 := HA.c0; have ha_1 := HA.c1; have ha_2 := HA.c2; have ha_l := HA.lt; have hg_0 := HG.c0; have hg_1 := HG.c1; have hg_2 := HG.c2; have hg_l := HG.lt; have hq_0 := HQ.c0; have hq_1 := HQ.c1; have hq_2 := HQ.c2; have hq_l := HQ.lt; have hp_0 := HP.c0; have hp_1 := HP.c1; have hp_2 := HP.c2; have hp_l := HP.lt; have hz_0 := HZ.c0; have hz_1 := HZ.c1; have hz_2 := HZ.c2; have hz_l := HZ.lt) | (go_at_call 19; (with_reducible refine (CD3.out _ _ _ _ _ (by trivial) m5 m6).mono ?_); rintro e z3 ⟨rfl, hbk⟩; (with_reducible (replace HB := HB.up hbk; replace m1 := m1.up hbk; replace m2' := m2'.up hbk; replace m3 := m3.up hbk; replace m4 := m4.up hbk; replace m5 := m5.up hbk; replace m6 := m6.up hbk; replace HT := HT.up hbk; replace HA := HA.up hbk; replace HG := HG.up hbk; replace HQ := HQ.up hbk; replace HP := HP.up hbk; replace HZ := HZ.up hbk)); clear ht_0 ht_1 ht_2 ht_l ha_0 ha_1 ha_2 ha_l hg_0 hg_1 hg_2 hg_l hq_0 hq_1 hq_2 hq_l hp_0 hp_1 hp_2 hp_l hz_0 hz_1 hz_2 hz_l; have ht_0 := HT.c0; have ht_1 := HT.c1; have ht_2 := HT.c2; have ht_l := HT.lt; have ha_0 := HA.c0; have ha_1 := HA.c1; have ha_2 := HA.c2; have ha_l := HA.lt; have hg_0 := HG.c0; have hg_1 := HG.c1; have hg_2 := HG.c2; have hg_l := HG.lt; have hq_0 := HQ.c0; have hq_1 := HQ.c1; have hq_2 := HQ.c2; have hq_l := HQ.lt; have hp_0 := HP.c0; have hp_1 := HP.c1; have hp_2 := HP.c2; have hp_l := HP.lt; have hz_0 := HZ.c0; have hz_1 := HZ.c1; have hz_2 := HZ.c2; have hz_l := HZ.lt) | fail)
          go_ret
          exact ⟨rfl, HB⟩
        · obtain ⟨e1, e2, e3, m1⟩ := ht (by decide)
          subst ut
          subst nt'
          subst kt
          obtain ⟨f1, f2, f3, m2'⟩ := hta rfl
          subst uta
          subst nta'
          subst kta
          obtain ⟨j1, j2, j3, m5⟩ := hp (by decide)
          subst up
          subst np'
          subst kp
          obtain ⟨l1, l2, l3, m6⟩ := hz rfl
          subst uz
          subst nz'
          subst kz
          have ht_0 := HT.c0
          have ht_1 := HT.c1
          have ht_2 := HT.c2
          have ht_l := HT.lt
          have ha_0 := HA.c0
          have ha_1 := HA.c1
          have ha_2 := HA.c2
          have ha_l := HA.lt
          have hg_0 := HG.c0
          have hg_1 := HG.c1
          have hg_2 := HG.c2
          have hg_l := HG.lt
          have hq_0 := HQ.c0
          have hq_1 := HQ.c1
          have hq_2 := HQ.c2
          have hq_l := HQ.lt
          have hp_0 := HP.c0
          have hp_1 := HP.c1
          have hp_2 := HP.c2
          have hp_l := HP.lt
          have hz_0 := HZ.c0
          have hz_1 := HZ.c1
          have hz_2 := HZ.c2
          have hz_l := HZ.lt
          go_wp2_with (first | (go_at_call 19; (with_reducible refine (CD1.out _ _ _ _ _ (by trivial) m1 m2').mono ?_); rintro e z1 ⟨rfl, hbk⟩; (with_reducible (replace HB := HB.up hbk; replace m1 := m1.up hbk; replace m2' := m2'.up hbk; replace m5 := m5.up hbk; replace m6 := m6.up hbk; replace HT := HT.up hbk; replace HA := HA.up hbk; replace HG := HG.up hbk; replace HQ := HQ.up hbk; replace HP := HP.up hbk; replace HZ := HZ.up hbk)); clear ht_0 ht_1 ht_2 ht_l ha_0 ha_1 ha_2 ha_l hg_0 hg_1 hg_2 hg_l hq_0 hq_1 hq_2 hq_l hp_0 hp_1 hp_2 hp_l hz_0 hz_1 hz_2 hz_l; have ht_0 := HT.c0; have ht_1 := HT.c1; have ht_2 := HT.c2; have ht_l := HT.lt; have ha_0 := HA.c0; have ha_1 := HA.c1; have ha_2 := HA.c2; have ha_l := HA.lt; have hg_0 := HG.c0; have hg_1 := HG.c1; have hg_2 := HG.c2; have hg_l := HG.lt; have hq_0 := HQ.c0; have hq_1 := HQ.c1; have hq_2 := HQ.c2; have hq_l := HQ.lt; have hp_0 := HP.c0; have hp_1 := HP.c1; have hp_2 := HP.c2; have hp_l := HP.lt; have hz_0 := HZ.c0; have hz_1 := HZ.c1; have hz_2 := HZ.c2; have hz_l := HZ.lt) | (go_at_call 19; (with_reducible refine (CD3.out _ _ _ _ _ (by trivial) m5 m6).mono ?_); rintro e z3 ⟨rfl, hbk⟩; (with_reducible (replace HB := HB.up hbk; replace m1 := m1.up hbk; replace m2' := m2'.up hbk; replace m5 := m5.up hbk; replace m6 := m6.up hbk; replace HT := HT.up hbk; replace HA := HA.up hbk; replace HG := HG.up hbk; replace HQ := HQ.up hbk; replace HP := HP.up hbk; replace HZ := HZ.up hbk)); clear ht_0 ht_1 ht_2 ht_l ha_0 ha_1 ha_2 ha_l hg_0 hg_1 hg_2 hg_l hq_0 hq_1 hq_2 hq_l hp_0 hp_1 hp_2 hp_l hz_0 hz_1 hz_2 hz_l; have ht_0 := HT.c0; have ht_1 := HT.c1; have ht_2 := HT.c2; have ht_l := HT.lt; have ha_0 := HA.c0; have ha_1 := HA.c1; have ha_2 := HA.c2; have ha_l := HA.lt; have hg_0 := HG.c0; have hg_1 := HG.c1; have hg_2 := HG.c2; have hg_l := HG.lt; have hq_0 := HQ.c0; have hq_1 := HQ.c1; have hq_2 := HQ.c2; have hq_l := HQ.lt; have hp_0 := HP.c0; have hp_1 := HP.c1; have hp_2 := HP.c2; have hp_l := HP.lt; have hz_0 := HZ.c0; have hz_1 := HZ.c1; have hz_2 := HZ.c2; have hz_l := HZ.lt) | fail)
          go_ret
          exact ⟨rfl, HB⟩
        · obtain ⟨e1, e2, e3, m1⟩ := ht (by decide)
          subst ut
          subst nt'
          subst kt
          obtain ⟨f1, f2, f3, m2'⟩ := hta rfl
          subst uta
          subst nta'
          subst kta
          obtain ⟨j1, j2, j3, m5⟩ := hp (by decide)
          subst up
          subst np'
          subst kp
          obtain ⟨l1, l2, l3, m6⟩ := hz rfl
          subst uz
          subst nz'
          subst kz
          have ht_0 := HT.c0
          have ht_1 := HT.c1
          have ht_2 := HT.c2
          have ht_l := HT.lt
          have ha_0 := HA.c0
          have ha_1 := HA.c1
          have ha_2 := HA.c2
          have ha_l := HA.lt
          have hg_0 := HG.c0
          have hg_1 := HG.c1
          have hg_2 := HG.c2
          have hg_l := HG.lt
          have hq_0 := HQ.c0
          have hq_1 := HQ.c1
          have hq_2 := HQ.c2
          have hq_l := HQ.lt
          have hp_0 := HP.c0
          have hp_1 := HP.c1
          have hp_2 := HP.c2
          have hp_l := HP.lt
          have hz_0 := HZ.c0
          have hz_1 := HZ.c1
          have hz_2 := HZ.c2
          have hz_l := HZ.lt
          go_wp2_with (first | (go_at_call 19; (with_reducible refine (CD1.out _ _ _ _ _ (by trivial) m1 m2').mono ?_); rintro e z1 ⟨rfl, hbk⟩; (with_reducible (replace HB := HB.up hbk; replace m1 := m1.up hbk; replace m2' := m2'.up hbk; replace m5 := m5.up hbk; replace m6 := m6.up hbk; replace HT := HT.up hbk; replace HA := HA.up hbk; replace HG := HG.up hbk; replace HQ := HQ.up hbk; replace HP := HP.up hbk; replace HZ := HZ.up hbk)); clear ht_0 ht_1 ht_2 ht_l ha_0 ha_1 ha_2 ha_l hg_0 hg_1 hg_2 hg_l hq_0 hq_1 hq_2 hq_l hp_0 hp_1 hp_2 hp_l hz_0 hz_1 hz_2 hz_l; have ht_0 := HT.c0; have ht_1 := HT.c1; have ht_2 := HT.c2; have ht_l := HT.lt; have ha_0 := HA.c0; have ha_1 := HA.c1; have ha_2 := HA.c2; have ha_l := HA.lt; have hg_0 := HG.c0; have hg_1 := HG.c1; have hg_2 := HG.c2; have hg_l := HG.lt; have hq_0 := HQ.c0; have hq_1 := HQ.c1; have hq_2 := HQ.c2; have hq_l := HQ.lt; have hp_0 := HP.c0; have hp_1 := HP.c1; have hp_2 := HP.c2; have hp_l := HP.lt; have hz_0 := HZ.c0; have hz_1 := HZ.c1; have hz_2 := HZ.c2; have hz_l := HZ.lt) | (go_at_call 19; (with_reducible refine (CD3.out _ _ _ _ _ (by trivial) m5 m6).mono ?_); rintro e z3 ⟨rfl, hbk⟩; (with_reducible (replace HB := HB.up hbk; replace m1 := m1.up hbk; replace m2' := m2'.up hbk; replace m5 := m5.up hbk; replace m6 := m6.up hbk; replace HT := HT.up hbk; replace HA := HA.up hbk; replace HG := HG.up hbk; replace HQ := HQ.up hbk; replace HP := HP.up hbk; replace HZ := HZ.up hbk)); clear ht_0 ht_1 ht_2 ht_l ha_0 ha_1 ha_2 ha_l hg_0 hg_1 hg_2 hg_l hq_0 hq_1 hq_2 hq_l hp_0 hp_1 hp_2 hp_l hz_0 hz_1 hz_2 hz_l; have ht_0 := HT.c0; have ht_1 := HT.c1; have ht_2 := HT.c2; have ht_l := HT.lt; have ha_0 := HA.c0; have ha_1 := HA.c1; have ha_2 := HA.c2; have ha_l := HA.lt; have hg_0 := HG.c0; have hg_1 := HG.c1; have hg_2 := HG.c2; have hg_l := HG.lt; have hq_0 := HQ.c0; have hq_1 := HQ.c1; have hq_2 := HQ.c2; have hq_l := HQ.lt; have hp_0 := HP.c0; have hp_1 := HP.c1; have hp_2 := HP.c2; have hp_l := HP.lt; have hz_0 := HZ.c0; have hz_1 := HZ.c1; have hz_2 := HZ.c2; have hz_l := HZ.lt) | fail)
          go_ret
          exact ⟨rfl, HB⟩
        · obtain ⟨g1, g2, g3, m3⟩ := hg (by decide)
          subst ug
          subst ng'
          subst kg
          obtain ⟨i1, i2, i3, m4⟩ := hsb (by decide)
          subst usb
          subst nsb'
          subst ksb
          obtain ⟨j1, j2, j3, m5⟩ := hp (by decide)
          subst up
          subst np'
          subst kp
          obtain ⟨l1, l2, l3, m6⟩ := hz rfl
          subst uz
          subst nz'
          subst kz
          have ht_0 := HT.c0
          have ht_1 := HT.c1
          have ht_2 := HT.c2
          have ht_l := HT.lt
          have ha_0 := HA.c0
          have ha_1 := HA.c1
          have ha_2 := HA.c2
          have ha_l := HA.lt
          have hg_0 := HG.c0
          have hg_1 := HG.c1
          have hg_2 := HG.c2
          have hg_l := HG.lt
          have hq_0 := HQ.c0
          have hq_1 := HQ.c1
          have hq_2 := HQ.c2
          have hq_l := HQ.lt
          have hp_0 := HP.c0
          have hp_1 := HP.c1
          have hp_2 := HP.c2
          have hp_l := HP.lt
          have hz_0 := HZ.c0
          have hz_1 := HZ.c1
          have hz_2 := HZ.c2
          have hz_l := HZ.lt
          go_wp2_with (first | (go_at_call 19; (with_reducible refine (CD2.out _ _ _ _ _ (by trivial) m3 m4).mono ?_); rintro e z2 ⟨rfl, hbk⟩; (with_reducible (replace HB := HB.up hbk; replace m3 := m3.up hbk; replace m4 := m4.up hbk; replace m5 := m5.up hbk; replace m6 := m6.up hbk; replace HT := HT.up hbk; replace HA := HA.up hbk; replace HG := HG.up hbk; replace HQ := HQ.up hbk; replace HP := HP.up hbk; replace HZ := HZ.up hbk)); clear ht_0 ht_1 ht_2 ht_l ha_0 ha_1 ha_2 ha_l hg_0 hg_1 hg_2 hg_l hq_0 hq_1 hq_2 hq_l hp_0 hp_1 hp_2 hp_l hz_0 hz_1 hz_2 hz_l; have ht_0 := HT.c0; have ht_1 := HT.c1; have ht_2 := HT.c2; have ht_l := HT.lt; have ha_0 := HA.c0; have ha_1 := HA.c1; have ha_2 := HA.c2; have ha_l := HA.lt; have hg_0 := HG.c0; have hg_1 := HG.c1; have hg_2 := HG.c2; have hg_l := HG.lt; have hq_0 := HQ.c0; have hq_1 := HQ.c1; have hq_2 := HQ.c2; have hq_l := HQ.lt; have hp_0 := HP.c0; have hp_1 := HP.c1; have hp_2 := HP.c2; have hp_l := HP.lt; have hz_0 := HZ.c0; have hz_1 := HZ.c1; have hz_2 := HZ.c2; have hz_l := HZ.lt) | (go_at_call 19; (with_reducible refine (CD3.out _ _ _ _ _ (by trivial) m5 m6).mono ?_); rintro e z3 ⟨rfl, hbk⟩; (with_reducible (replace HB := HB.up hbk; replace m3 := m3.up hbk; replace m4 := m4.up hbk; replace m5 := m5.up hbk; replace m6 := m6.up hbk; replace HT := HT.up hbk; replace HA := HA.up hbk; replace HG := HG.up hbk; replace HQ := HQ.up hbk; replace HP := HP.up hbk; replace HZ := HZ.up hbk)); clear ht_0 ht_1 ht_2 ht_l ha_0 ha_1 ha_2 ha_l hg_0 hg_1 hg_2 hg_l hq_0 hq_1 hq_2 hq_l hp_0 hp_1 hp_2 hp_l hz_0 hz_1 hz_2 hz_l; have ht_0 := HT.c0; have ht_1 := HT.c1; have ht_2 := HT.c2; have ht_l := HT.lt; have ha_0 := HA.c0; have ha_1 := HA.c1; have ha_2 := HA.c2; have ha_l := HA.lt; have hg_0 := HG.c0; have hg_1 := HG.c1; have hg_2 := HG.c2; have hg_l := HG.lt; have hq_0 := HQ.c0; have hq_1 := HQ.c1; have hq_2 := HQ.c2; have hq_l := HQ.lt; have hp_0 := HP.c0; have hp_1 := HP.c1; have hp_2 := HP.c2; have hp_l := HP.lt; have hz_0 := HZ.c0; have hz_1 := HZ.c1; have hz_2 := HZ.c2; have hz_l := HZ.lt) | fail)
          go_ret
          exact ⟨rfl, HB⟩
        · obtain ⟨j1, j2, j3, m5⟩ := hp (by decide)
          subst up
          subst np'
          subst kp
          obtain ⟨l1, l2, l3, m6⟩ := hz rfl
          subst uz
          subst nz'
          subst kz
          have ht_0 := HT.c0
          have ht_1 := HT.c1
          have ht_2 := HT.c2
          have ht_l := HT.lt
          have ha_0 := HA.c0
          have ha_1 := HA.c1
          have ha_2 := HA.c2
          have ha_l := HA.lt
          have hg_0 := HG.c0
          have hg_1 := HG.c1
          have hg_2 := HG.c2
          have hg_l := HG.lt
          have hq_0 := HQ.c0
          have hq_1 := HQ.c1
          have hq_2 := HQ.c2
          have hq_l := HQ.lt
          have hp_0 := HP.c0
          have hp_1 := HP.c1
          have hp_2 := HP.c2
          have hp_l := HP.lt
          have hz_0 := HZ.c0
          have hz_1 := HZ.c1
          have hz_2 := HZ.c2
          have hz_l := HZ.lt
          go_wp2_with (first | (go_at_call 19; (with_reducible refine (CD3.out _ _ _ _ _ (by trivial) m5 m6).mono ?_); rintro e z3 ⟨rfl, hbk⟩; (with_reducible (replace HB := HB.up hbk; replace m5 := m5.up hbk; replace m6 := m6.up hbk; replace HT := HT.up hbk; replace HA := HA.up hbk; replace HG := HG.up hbk; replace HQ := HQ.up hbk; replace HP := HP.up hbk; replace HZ := HZ.up hbk)); clear ht_0 ht_1 ht_2 ht_l ha_0 ha_1 ha_2 ha_l hg_0 hg_1 hg_2 hg_l hq_0 hq_1 hq_2 hq_l hp_0 hp_1 hp_2 hp_l hz_0 hz_1 hz_2 hz_l; have ht_0 := HT.c0; have ht_1 := HT.c1; have ht_2 := HT.c2; have ht_l := HT.lt; have ha_0 := HA.c0; have ha_1 := HA.c1; have ha_2 := HA.c2; have ha_l := HA.lt; have hg_0 := HG.c0; have hg_1 := HG.c1; have hg_2 := HG.c2; have hg_l := HG.lt; have hq_0 := HQ.c0; have hq_1 := HQ.c1; have hq_2 := HQ.c2; have hq_l := HQ.lt; have hp_0 := HP.c0; have hp_1 := HP.c1; have hp_2 := HP.c2; have hp_l := HP.lt; have hz_0 := HZ.c0; have hz_1 := HZ.c1; have hz_2 := HZ.c2; have hz_l := HZ.lt) | fail)
          go_ret
          exact ⟨rfl, HB⟩
        · obtain ⟨j1, j2, j3, m5⟩ := hp (by decide)
          subst up
          subst np'
          subst kp
          obtain ⟨l1, l2, l3, m6⟩ := hz rfl
          subst uz
          subst nz'
          subst kz
          have ht_0 := HT.c0
          have ht_1 := HT.c1
          have ht_2 := HT.c2
          have ht_l := HT.lt
          have ha_0 := HA.c0
          have ha_1 := HA.c1
          have ha_2 := HA.c2
          have ha_l := HA.lt
          have hg_0 := HG.c0
          have hg_1 := HG.c1
          have hg_2 := HG.c2
          have hg_l := HG.lt
          have hq_0 := HQ.c0
          have hq_1 := HQ.c1
          have hq_2 := HQ.c2
          have hq_l := HQ.lt
          have hp_0 := HP.c0
          have hp_1 := HP.c1
          have hp_2 := HP.c2
          have hp_l := HP.lt
          have hz_0 := HZ.c0
          have hz_1 := HZ.c1
          have hz_2 := HZ.c2
          have hz_l := HZ.lt
          go_wp2_with (first | (go_at_call 19; (with_reducible refine (CD3.out _ _ _ _ _ (by trivial) m5 m6).mono ?_); rintro e z3 ⟨rfl, hbk⟩; (with_reducible (replace HB := HB.up hbk; replace m5 := m5.up hbk; replace m6 := m6.up hbk; replace HT := HT.up hbk; replace HA := HA.up hbk; replace HG := HG.up hbk; replace HQ := HQ.up hbk; replace HP := HP.up hbk; replace HZ := HZ.up hbk)); clear ht_0 ht_1 ht_2 ht_l ha_0 ha_1 ha_2 ha_l hg_0 hg_1 hg_2 hg_l hq_0 hq_1 hq_2 hq_l hp_0 hp_1 hp_2 hp_l hz_0 hz_1 hz_2 hz_l; have ht_0 := HT.c0; have ht_1 := HT.c1; have ht_2 := HT.c2; have ht_l := HT.lt; have ha_0 := HA.c0; have ha_1 := HA.c1; have ha_2 := HA.c2; have ha_l := HA.lt; have hg_0 := HG.c0; have hg_1 := HG.c1; have hg_2 := HG.c2; have hg_l := HG.lt; have hq_0 := HQ.c0; have hq_1 := HQ.c1; have hq_2 := HQ.c2; have hq_l := HQ.lt; have hp_0 := HP.c0; have hp_1 := HP.c1; have hp_2 := HP.c2; have hp_l := HP.lt; have hz_0 := HZ.c0; have hz_1 := HZ.c1; have hz_2 := HZ.c2; have hz_l := HZ.lt) | fail)
          go_ret
          exact ⟨rfl, HB⟩
      · rcases hT with ⟨rfl, rfl⟩ | ⟨rfl, rfl⟩ <;> rcases hE with rfl | rfl | rfl
        · obtain ⟨e1, e2, e3, m1⟩ := ht (by decide)
          subst ut
          subst nt'
          subst kt
          obtain ⟨f1, f2, f3, m2'⟩ := hta rfl
          subst uta
          subst nta'
          subst kta
          obtain ⟨g1, g2, g3, m3⟩ := hg (by decide)
          subst ug
          subst ng'
          subst kg
          obtain ⟨i1, i2, i3, m4⟩ := hsb (by decide)
          subst usb
          subst nsb'
          subst ksb
          have ht_0 := HT.c0
          have ht_1 := HT.c1
          have ht_2 := HT.c2
          have ht_l := HT.lt
          have ha_0 := HA.c0
          have ha_1 := HA.c1
          have ha_2 := HA.c2
          have ha_l := HA.lt
          have hg_0 := HG.c0
          have hg_1 := HG.c1
          have hg_2 := HG.c2
          have hg_l := HG.lt
          have hq_0 := HQ.c0
          have hq_1 := HQ.c1
          have hq_2 := HQ.c2
          have hq_l := HQ.lt
          have hp_0 := HP.c0
          have hp_1 := HP.c1
          have hp_2 := HP.c2
          have hp_l := HP.lt
          have hz_0 := HZ.c0
          have hz_1 := HZ.c1
          have hz_2 := HZ.c2
          have hz_l := HZ.lt
          go_wp2_with (first | (go_at_call 19; (with_reducible refine (CD1.out _ _ _ _ _ (by trivial) m1 m2').mono ?_); rintro e z1 ⟨rfl, hbk⟩; (with_reducible (replace HB := HB.up hbk; replace m1 := m1.up hbk; replace m2' := m2'.up hbk; replace m3 := m3.up hbk; replace m4 := m4.up hbk; replace HT := HT.up hbk; replace HA := HA.up hbk; replace HG := HG.up hbk; replace HQ := HQ.up hbk; replace HP := HP.up hbk; replace HZ := HZ.up hbk)); clear ht_0 ht_1 ht_2 ht_l ha_0 ha_1 ha_2 ha_l hg_0 hg_1 hg_2 hg_l hq_0 hq_1 hq_2 hq_l hp_0 hp_1 hp_2 hp_l hz_0 hz_1 hz_2 hz_l; have ht_0 := HT.c0; have ht_1 := HT.c1; have ht_2 := HT.c2; have ht_l := HT.lt; have ha_0 := HA.c0; have ha_1 := HA.c1; have ha_2 := HA.c2; have ha_l := HA.lt; have hg_0 := HG.c0; have hg_1 := HG.c1; have hg_2 := HG.c2; have hg_l := HG.lt; have hq_0 := HQ.c0; have hq_1 := HQ.c1; have hq_2 := HQ.c2; have hq_l := HQ.lt; have hp_0 := HP.c0; have hp_1 := HP.c1; have hp_2 := HP.c2; have hp_l := HP.lt; have hz_0 := HZ.c0; have hz_1 := HZ.c1; have hz_2 := HZ.c2; have hz_l := HZ.lt) | (go_at_call 19; (with_reducible refine (CD2.out _ _ _ _ _ (by trivial) m3 m4).mono ?_); rintro e z2 ⟨rfl, hbk⟩; (with_reducible (replace HB := HB.up hbk; replace m1 := m1.up hbk; replace m2' := m2'.up hbk; replace m3 := m3.up hbk; replace m4 := m4.up hbk; replace HT := HT.up hbk; replace HA := HA.up hbk; replace HG := HG.up hbk; replace HQ := HQ.up hbk; replace HP := HP.up hbk; replace HZ := HZ.up hbk)); clear ht_0 ht_1 ht_2 ht_l ha_0 ha_1 ha_2 ha_l hg_0 hg_1 hg_2 hg_l hq_0 hq_1 hq_2 hq_l hp_0 hp_1 hp_2 hp_l hz_0 hz_1 hz_2 hz_l; have ht_0 := HT.c0; have ht_1 := HT.c1; have ht_2 := HT.c2; have ht_l := HT.lt; have ha_0 := HA.c0; have ha_1 := HA.c1; have ha_2 := HA.c2; have ha_l := HA.lt; have hg_0 := HG.c0; have hg_1 := HG.c1; have hg_2 := HG.c2; have hg_l := HG.lt; have hq_0 := HQ.c0; have hq_1 := HQ.c1; have hq_2 := HQ.c2; have hq_l := HQ.lt; have hp_0 := HP.c0; have hp_1 := HP.c1; have hp_2 := HP.c2; have hp_l := HP.lt; have hz_0 := HZ.c0; have hz_1 := HZ.c1; have hz_2 := HZ.c2; have hz_l := HZ.lt) | fail)
          go_ret
          exact ⟨rfl, HB⟩
        · obtain ⟨e1, e2, e3, m1⟩ := ht (by decide)
          subst ut
          subst nt'
          subst kt
          obtain ⟨f1, f2, f3, m2'⟩ := hta rfl
          subst uta
          subst nta'
          subst kta
          have ht_0 := HT.c0
          have ht_1 := HT.c1
          have ht_2 := HT.c2
          have ht_l := HT.lt
          have ha_0 := HA.c0
          have ha_1 := HA.c1
          have ha_2 := HA.c2
          have ha_l := HA.lt
          have hg_0 := HG.c0
          have hg_1 := HG.c1
          have hg_2 := HG.c2
          have hg_l := HG.lt
          have hq_0 := HQ.c0
          have hq_1 := HQ.c1
          have hq_2 := HQ.c2
          have hq_l := HQ.lt
          have hp_0 := HP.c0
          have hp_1 := HP.c1
          have hp_2 := HP.c2
          have hp_l := HP.lt
          have hz_0 := HZ.c0
          have hz_1 := HZ.c1
          have hz_2 := HZ.c2
          have hz_l := HZ.lt
          go_wp2_with (first | (go_at_call 19; (with_reducible refine (CD1.out _ _ _ _ _ (by trivial) m1 m2').mono ?_); rintro e z1 ⟨rfl, hbk⟩; (with_reducible (replace HB := HB.up hbk; replace m1 := m1.up hbk; replace m2' := m2'.up hbk; replace HT := HT.up hbk; replace HA := HA.up hbk; replace HG := HG.up hbk; replace HQ := HQ.up hbk; replace HP := HP.up hbk; replace HZ := HZ.up hbk)); clear ht_0 ht_1 ht_2 ht_l ha_0 ha_1 ha_2 ha_l hg_0 hg_1 hg_2 hg_l hq_0 hq_1 hq_2 hq_l hp_0 hp_1 hp_2 hp_l hz_0 hz_1 hz_2 hz_l; have ht_0 := HT.c0; have ht_1 := HT.c1; have ht_2 := HT.c2; have ht_l := HT.lt; have ha_0 := HA.c0; have ha_1 := HA.c1; have ha_2 := HA.c2; have ha_l := HA.lt; have hg_0 := HG.c0; have hg_1 := HG.c1; have hg_2 := HG.c2; have hg_l := HG.lt; have hq_0 := HQ.c0; have hq_1 := HQ.c1; have hq_2 := HQ.c2; have hq_l := HQ.lt; have hp_0 := HP.c0; have hp_1 := HP.c1; have hp_2 := HP.c2; have hp_l := HP.lt; have hz_0 := HZ.c0; have hz_1 := HZ.c1; have hz_2 := HZ.c2; have hz_l := HZ.lt) | fail)
          go_ret
          exact ⟨rfl, HB⟩
        · obtain ⟨e1, e2, e3, m1⟩ := ht (by decide)
          subst ut
          subst nt'
          subst kt
          obtain ⟨f1, f2, f3, m2'⟩ := hta rfl
          subst uta
          subst nta'
          subst kta
          have ht_0 := HT.c0
          have ht_1 := HT.c1
          have ht_2 := HT.c2
          have ht_l := HT.lt
          have ha_0 := HA.c0
          have ha_1 := HA.c1
          have ha_2 := HA.c2
          have ha_l := HA.lt
          have hg_0 := HG.c0
          have hg_1 := HG.c1
          have hg_2 := HG.c2
          have hg_l := HG.lt
          have hq_0 := HQ.c0
          have hq_1 := HQ.c1
          have hq_2 := HQ.c2
          have hq_l := HQ.lt
          have hp_0 := HP.c0
          have hp_1 := HP.c1
          have hp_2 := HP.c2
          have hp_l := HP.lt
          have hz_0 := HZ.c0
          have hz_1 := HZ.c1
          have hz_2 := HZ.c2
          have hz_l := HZ.lt
          go_wp2_with (first | (go_at_call 19; (with_reducible refine (CD1.out _ _ _ _ _ (by trivial) m1 m2').mono ?_); rintro e z1 ⟨rfl, hbk⟩; (with_reducible (replace HB := HB.up hbk; replace m1 := m1.up hbk; replace m2' := m2'.up hbk; replace HT := HT.up hbk; replace HA := HA.up hbk; replace HG := HG.up hbk; replace HQ := HQ.up hbk; replace HP := HP.up hbk; replace HZ := HZ.up hbk)); clear ht_0 ht_1 ht_2 ht_l ha_0 ha_1 ha_2 ha_l hg_0 hg_1 hg_2 hg_l hq_0 hq_1 hq_2 hq_l hp_0 hp_1 hp_2 hp_l hz_0 hz_1 hz_2 hz_l; have ht_0 := HT.c0; have ht_1 := HT.c1; have ht_2 := HT.c2; have ht_l := HT.lt; have ha_0 := HA.c0; have ha_1 := HA.c1; have ha_2 := HA.c2; have ha_l := HA.lt; have hg_0 := HG.c0; have hg_1 := HG.c1; have hg_2 := HG.c2; have hg_l := HG.lt; have hq_0 := HQ.c0; have hq_1 := HQ.c1; have hq_2 := HQ.c2; have hq_l := HQ.lt; have hp_0 := HP.c0; have hp_1 := HP.c1; have hp_2 := HP.c2; have hp_l := HP.lt; have hz_0 := HZ.c0; have hz_1 := HZ.c1; have hz_2 := HZ.c2; have hz_l := HZ.lt) | fail)
          go_ret
          exact ⟨rfl, HB⟩
        · obtain ⟨g1, g2, g3, m3⟩ := hg (by decide)
          subst ug
          subst ng'
          subst kg
          obtain ⟨i1, i2, i3, m4⟩ := hsb (by decide)
          subst usb
          subst nsb'
          subst ksb
          have ht_0 := HT.c0
          have ht_1 := HT.c1
          have ht_2 := HT.c2
          have ht_l := HT.lt
          have ha_0 := HA.c0
          have ha_1 := HA.c1
          have ha_2 := HA.c2
          have ha_l := HA.lt
          have hg_0 := HG.c0
          have hg_1 := HG.c1
          have hg_2 := HG.c2
          have hg_l := HG.lt
          have hq_0 := HQ.c0
          have hq_1 := HQ.c1
          have hq_2 := HQ.c2
          have hq_l := HQ.lt
          have hp_0 := HP.c0
          have hp_1 := HP.c1
          have hp_2 := HP.c2
          have hp_l := HP.lt
          have hz_0 := HZ.c0
          have hz_1 := HZ.c1
          have hz_2 := HZ.c2
          have hz_l := HZ.lt
          go_wp2_with (first | (go_at_call 19; (with_reducible refine (CD2.out _ _ _ _ _ (by trivial) m3 m4).mono ?_); rintro e z2 ⟨rfl, hbk⟩; (with_reducible (replace HB := HB.up hbk; replace m3 := m3.up hbk; replace m4 := m4.up hbk; replace HT := HT.up hbk; replace HA := HA.up hbk; replace HG := HG.up hbk; replace HQ := HQ.up hbk; replace HP := HP.up hbk; replace HZ := HZ.up hbk)); clear ht_0 ht_1 ht_2 ht_l ha_0 ha_1 ha_2 ha_l hg_0 hg_1 hg_2 hg_l hq_0 hq_1 hq_2 hq_l hp_0 hp_1 hp_2 hp_l hz_0 hz_1 hz_2 hz_l; have ht_0 := HT.c0; have ht_1 := HT.c1; have ht_2 := HT.c2; have ht_l := HT.lt; have ha_0 := HA.c0; have ha_1 := HA.c1; have ha_2 := HA.c2; have ha_l := HA.lt; have hg_0 := HG.c0; have hg_1 := HG.c1; have hg_2 := HG.c2; have hg_l := HG.lt; have hq_0 := HQ.c0; have hq_1 := HQ.c1; have hq_2 := HQ.c2; have hq_l := HQ.lt; have hp_0 := HP.c0; have hp_1 := HP.c1; have hp_2 := HP.c2; have hp_l := HP.lt; have hz_0 := HZ.c0; have hz_1 := HZ.c1; have hz_2 := HZ.c2; have hz_l := HZ.lt) | fail)
          go_ret
          exact ⟨rfl, HB⟩
        · have ht_0 := HT.c0
          have ht_1 := HT.c1
          have ht_2 := HT.c2
          have ht_l := HT.lt
          have ha_0 := HA.c0
          have ha_1 := HA.c1
          have ha_2 := HA.c2
          have ha_l := HA.lt
          have hg_0 := HG.c0
          have hg_1 := HG.c1
          have hg_2 := HG.c2
          have hg_l := HG.lt
          have hq_0 := HQ.c0
          have hq_1 := HQ.c1
          have hq_2 := HQ.c2
          have hq_l := HQ.lt
          have hp_0 := HP.c0
          have hp_1 := HP.c1
          have hp_2 := HP.c2
          have hp_l := HP.lt
          have hz_0 := HZ.c0
          have hz_1 := HZ.c1
          have hz_2 := HZ.c2
          have hz_l := HZ.lt
          go_wp2_with fail
          go_ret
          exact ⟨rfl, HB⟩
        · have ht_0 := HT.c0
          have ht_1 := HT.c1
          have ht_2 := HT.c2
          have ht_l := HT.lt
          have ha_0 := HA.c0
          have ha_1 := HA.c1
          have ha_2 := HA.c2
          have ha_l := HA.lt
          have hg_0 := HG.c0
          have hg_1 := HG.c1
          have hg_2 := HG.c2
          have hg_l := HG.lt
          have hq_0 := HQ.c0
          have hq_1 := HQ.c1
          have hq_2 := HQ.c2
          have hq_l := HQ.lt
          have hp_0 := HP.c0
          have hp_1 := HP.c1
          have hp_2 := HP.c2
          have hp_l := HP.lt
          have hz_0 := HZ.c0
          have hz_1 := HZ.c1
          have hz_2 := HZ.c2
          have hz_l := HZ.lt
          go_wp2_with fail
          go_ret
          exact ⟨rfl, HB⟩
end Go.Proofs.YtmiklffjffdkgaaGreatDoor
