/- Several texts in one, each with its own sentence and conditions. -/
import Derived.Test.YtfknclimoihfdaaDoorGOdc25
section
/- RatOrder's walk, where all three are valid and short. No conditions. -/
open Go.RowKit
set_option maxRecDepth 100000
namespace Go.Proofs.YtfknclimoihfdaaDoor
def QRv (W : World) (sg : Bool) (r : Rat) (e : Ending) (w' : World) : Prop := ∃ A c A' c', e = .returned (.agg #[.bool sg, .slice A (dl r.num.natAbs) c, .slice A' (dl r.den) c']) ∧ ZA w' sg A (dl r.num.natAbs) c r.num ∧ Nm w' A' (dl r.den) c' r.den ∧ Hid (Below W.heap.size W w')
section
variable {b0 b1 b2 : Bool} {A A' B B' C C' : Option Addr} {n c n' c' m d m' d' k e k' e' : Nat} {ra rb rc : Rat}
set_option maxHeartbeats 8000000 in
theorem rorder_a (w : World) (ha : QA w b0 A n c A' n' c' ra 12) (hb : QA w b1 B m d B' m' d' rb 12) (hc : QA w b2 C k e C' k' e' rc 12)
    (CLa : ∀ W, Calls Tryd.prog 58 #[.agg #[.bool b0, .slice A n c, .slice A' n' c']] W (BoolR W false)) (CLb : ∀ W, Calls Tryd.prog 58 #[.agg #[.bool b1, .slice B m d, .slice B' m' d']] W (BoolR W false)) (CLc : ∀ W, Calls Tryd.prog 58 #[.agg #[.bool b2, .slice C k e, .slice C' k' e']] W (BoolR W false))
    (CGa : ∀ W, Bel w W → Calls Tryd.prog 64 #[.agg #[.bool b0, .slice A n c, .slice A' n' c']] W (RetB W true)) (CGb : ∀ W, Bel w W → Calls Tryd.prog 64 #[.agg #[.bool b1, .slice B m d, .slice B' m' d']] W (RetB W true)) (CGc : ∀ W, Bel w W → Calls Tryd.prog 64 #[.agg #[.bool b2, .slice C k e, .slice C' k' e']] W (RetB W true)) (h1 : ra.num.sign ≤ 0) :
    Calls Tryd.prog 8 #[.agg #[.bool b0, .slice A n c, .slice A' n' c'], .agg #[.bool b1, .slice B m d, .slice B' m' d'], .agg #[.bool b2, .slice C k e, .slice C' k' e']] w fun e w' => e = .returned (.bool true) ∧ Below w.heap.size w w' := by
  obtain ⟨p, hp⟩ : ∃ p, p = cmpR ra rb := ⟨_, rfl⟩
  obtain ⟨x, hx⟩ : ∃ x : Rat, x = ra + rc := ⟨_, rfl⟩
  obtain ⟨y, hy⟩ : ∃ y : Rat, y = rb + rc := ⟨_, rfl⟩
  obtain ⟨u, hu⟩ : ∃ u : Rat, u = -rb := ⟨_, rfl⟩
  obtain ⟨v, hv⟩ : ∃ v : Rat, v = -ra := ⟨_, rfl⟩
  obtain ⟨sx, hsx⟩ : ∃ s, s = decide (x.num < 0) := ⟨_, rfl⟩
  obtain ⟨sy, hsy⟩ : ∃ s, s = decide (y.num < 0) := ⟨_, rfl⟩
  obtain ⟨su, hsu⟩ : ∃ s, s = decide (u.num < 0) := ⟨_, rfl⟩
  obtain ⟨sv, hsv⟩ : ∃ s, s = decide (v.num < 0) := ⟨_, rfl⟩
  have ba : Bd ra 12 := qa_bd ha (by decide)
  have bb : Bd rb 12 := qa_bd hb (by decide)
  have bc : Bd rc 12 := qa_bd hc (by decide)
  have bx : Bd x 25 := by rw [hx]; exact ba.add bc
  have by' : Bd y 25 := by rw [hy]; exact bb.add bc
  have bu : Bd u 12 := by rw [hu]; exact bb.neg
  have bv : Bd v 12 := by rw [hv]; exact ba.neg
  have CP : Hid (∀ W, Bel w W → Calls Tryd.prog 61 #[.agg #[.bool b0, .slice A n c, .slice A' n' c'], .agg #[.bool b1, .slice B m d, .slice B' m' d']] W (IntPost W p)) := fun W h => by rw [hp]; exact rcmp_h (ha.up h) (hb.up h) (by decide) (by decide)
  have CX : Hid (∀ W, Bel w W → Calls Tryd.prog 62 #[.agg #[.bool b0, .slice A n c, .slice A' n' c'], .agg #[.bool b2, .slice C k e, .slice C' k' e']] W (QRv W sx x)) := fun W h => by rw [hsx, hx]; exact radd_h (ha.up h) (hc.up h) (by decide) (by decide)
  have CY : Hid (∀ W, Bel w W → Calls Tryd.prog 62 #[.agg #[.bool b1, .slice B m d, .slice B' m' d'], .agg #[.bool b2, .slice C k e, .slice C' k' e']] W (QRv W sy y)) := fun W h => by rw [hsy, hy]; exact radd_h (hb.up h) (hc.up h) (by decide) (by decide)
  have CXY : Hid (∀ W D1 n1 c1 D2 n2 c2 D3 n3 c3 D4 n4 c4, ZA W sx D1 n1 c1 x.num → Nm W D2 n2 c2 x.den → ZA W sy D3 n3 c3 y.num → Nm W D4 n4 c4 y.den → Calls Tryd.prog 61 #[.agg #[.bool sx, .slice D1 n1 c1, .slice D2 n2 c2], .agg #[.bool sy, .slice D3 n3 c3, .slice D4 n4 c4]] W (IntPost W p)) := fun W D1 n1 c1 D2 n2 c2 D3 n3 c3 D4 n4 c4 h1 h2 h3 h4 => by
    rw [hp, ← cmpR_add ra rb rc, ← hx, ← hy]
    exact rcmp_h (qa_of h1 h2 bx) (qa_of h3 h4 by') (by decide) (by decide)
  have CU : Hid (∀ W, Bel w W → Calls Tryd.prog 65 #[.agg #[.bool b1, .slice B m d, .slice B' m' d']] W (QRv W su u)) := fun W h => by rw [hsu, hu]; exact rneg_h (hb.up h) (by decide) (by decide)
  have CV : Hid (∀ W, Bel w W → Calls Tryd.prog 65 #[.agg #[.bool b0, .slice A n c, .slice A' n' c']] W (QRv W sv v)) := fun W h => by rw [hsv, hv]; exact rneg_h (ha.up h) (by decide) (by decide)
  have CUV : Hid (∀ W D1 n1 c1 D2 n2 c2 D3 n3 c3 D4 n4 c4, ZA W su D1 n1 c1 u.num → Nm W D2 n2 c2 u.den → ZA W sv D3 n3 c3 v.num → Nm W D4 n4 c4 v.den → Calls Tryd.prog 61 #[.agg #[.bool su, .slice D1 n1 c1, .slice D2 n2 c2], .agg #[.bool sv, .slice D3 n3 c3, .slice D4 n4 c4]] W (IntPost W p)) := fun W D1 n1 c1 D2 n2 c2 D3 n3 c3 D4 n4 c4 h1 h2 h3 h4 => by
    rw [hp, ← cmpR_neg ra rb, ← hu, ← hv]
    exact rcmp_h (qa_of h1 h2 bu) (qa_of h3 h4 bv) (by decide) (by decide)
  have CLa' := hide CLa
  have CLb' := hide CLb
  have CLc' := hide CLc
  have CGa' := hide CGa
  have CGb' := hide CGb
  have CGc' := hide CGc
  obtain ⟨va, hva, hwa⟩ : ∃ v, ra.num.sign = v ∧ v ≤ 0 := ⟨_, rfl, h1⟩
  have CSa : Hid (∀ W, Bel w W → Calls Tryd.prog 66 #[.agg #[.bool b0, .slice A n c, .slice A' n' c']] W (IntPost W va)) := fun W h => rsign_h (ha.up h) (by decide) hva
  clear h1 hva
  clear CLa CLb CLc CGa CGb CGc
  have CLa := CLa'
  have CLb := CLb'
  have CLc := CLc'
  have CGa := CGa'
  have CGb := CGb'
  have CGc := CGc'
  clear CLa' CLb' CLc' CGa' CGb' CGc'
  clear ha hb hc hp hx hy hu hv hsx hsy hsu hsv ba bb bc bx by' bu bv
  have HB := Bel.refl w
  go_enter Tryd.func8, Tryd.ntmps8
  go_wp2_with (first | (go_at_call 57; (with_reducible refine (awake3_any _).mono ?_); rintro e w1 ⟨rfl, hbk⟩; (with_reducible (have HA : At w1 w.heap.size [.bool b0, .slice A n c, .slice A' n' c'] := At.up ((at_new0 _ _ _).al _ |>.al _) hbk; have HD : At w1 (w.heap.size + 1) [.bool b1, .slice B m d, .slice B' m' d'] := At.up ((at_new1 _ _ _ _).al _) hbk; have HE : At w1 (w.heap.size + 1 + 1) [.bool b2, .slice C k e, .slice C' k' e'] := At.up (at_new2 _ _ _ _ _) hbk; replace HB := (((HB.al _).al _).al _).up hbk)); have ha_0 := HA.c0; have ha_1 := HA.c1; have ha_2 := HA.c2; have ha_l := HA.lt; have hd_0 := HD.c0; have hd_1 := HD.c1; have hd_2 := HD.c2; have hd_l := HD.lt; have he_0 := HE.c0; have he_1 := HE.c1; have he_2 := HE.c2; have he_l := HE.lt) | (go_at_call 58; (with_reducible refine (CLa.out _).mono ?_); rintro e w2a ⟨rfl, hbk⟩; (with_reducible (replace HB := HB.up hbk; replace HA := HA.up hbk; replace HD := HD.up hbk; replace HE := HE.up hbk)); clear ha_0 ha_1 ha_2 ha_l hd_0 hd_1 hd_2 hd_l he_0 he_1 he_2 he_l; have ha_0 := HA.c0; have ha_1 := HA.c1; have ha_2 := HA.c2; have ha_l := HA.lt; have hd_0 := HD.c0; have hd_1 := HD.c1; have hd_2 := HD.c2; have hd_l := HD.lt; have he_0 := HE.c0; have he_1 := HE.c1; have he_2 := HE.c2; have he_l := HE.lt) | (go_at_call 58; (with_reducible refine (CLb.out _).mono ?_); rintro e w2b ⟨rfl, hbk⟩; (with_reducible (replace HB := HB.up hbk; replace HA := HA.up hbk; replace HD := HD.up hbk; replace HE := HE.up hbk)); clear ha_0 ha_1 ha_2 ha_l hd_0 hd_1 hd_2 hd_l he_0 he_1 he_2 he_l; have ha_0 := HA.c0; have ha_1 := HA.c1; have ha_2 := HA.c2; have ha_l := HA.lt; have hd_0 := HD.c0; have hd_1 := HD.c1; have hd_2 := HD.c2; have hd_l := HD.lt; have he_0 := HE.c0; have he_1 := HE.c1; have he_2 := HE.c2; have he_l := HE.lt) | (go_at_call 58; (with_reducible refine (CLc.out _).mono ?_); rintro e w2c ⟨rfl, hbk⟩; (with_reducible (replace HB := HB.up hbk; replace HA := HA.up hbk; replace HD := HD.up hbk; replace HE := HE.up hbk)); clear ha_0 ha_1 ha_2 ha_l hd_0 hd_1 hd_2 hd_l he_0 he_1 he_2 he_l; have ha_0 := HA.c0; have ha_1 := HA.c1; have ha_2 := HA.c2; have ha_l := HA.lt; have hd_0 := HD.c0; have hd_1 := HD.c1; have hd_2 := HD.c2; have hd_l := HD.lt; have he_0 := HE.c0; have he_1 := HE.c1; have he_2 := HE.c2; have he_l := HE.lt) | (go_at_call 64; (with_reducible refine (CGa.out _ HB).mono ?_); rintro e w3a ⟨rfl, hbk⟩; replace hbk := Bel.hid hbk; (with_reducible (replace HB := HB.up hbk; replace HA := HA.up hbk; replace HD := HD.up hbk; replace HE := HE.up hbk)); clear ha_0 ha_1 ha_2 ha_l hd_0 hd_1 hd_2 hd_l he_0 he_1 he_2 he_l; have ha_0 := HA.c0; have ha_1 := HA.c1; have ha_2 := HA.c2; have ha_l := HA.lt; have hd_0 := HD.c0; have hd_1 := HD.c1; have hd_2 := HD.c2; have hd_l := HD.lt; have he_0 := HE.c0; have he_1 := HE.c1; have he_2 := HE.c2; have he_l := HE.lt) | (go_at_call 64; (with_reducible refine (CGb.out _ HB).mono ?_); rintro e w3b ⟨rfl, hbk⟩; replace hbk := Bel.hid hbk; (with_reducible (replace HB := HB.up hbk; replace HA := HA.up hbk; replace HD := HD.up hbk; replace HE := HE.up hbk)); clear ha_0 ha_1 ha_2 ha_l hd_0 hd_1 hd_2 hd_l he_0 he_1 he_2 he_l; have ha_0 := HA.c0; have ha_1 := HA.c1; have ha_2 := HA.c2; have ha_l := HA.lt; have hd_0 := HD.c0; have hd_1 := HD.c1; have hd_2 := HD.c2; have hd_l := HD.lt; have he_0 := HE.c0; have he_1 := HE.c1; have he_2 := HE.c2; have he_l := HE.lt) | (go_at_call 64; (with_reducible refine (CGc.out _ HB).mono ?_); rintro e w3c ⟨rfl, hbk⟩; replace hbk := Bel.hid hbk; (with_reducible (replace HB := HB.up hbk; replace HA := HA.up hbk; replace HD := HD.up hbk; replace HE := HE.up hbk)); clear ha_0 ha_1 ha_2 ha_l hd_0 hd_1 hd_2 hd_l he_0 he_1 he_2 he_l; have ha_0 := HA.c0; have ha_1 := HA.c1; have ha_2 := HA.c2; have ha_l := HA.lt; have hd_0 := HD.c0; have hd_1 := HD.c1; have hd_2 := HD.c2; have hd_l := HD.lt; have he_0 := HE.c0; have he_1 := HE.c1; have he_2 := HE.c2; have he_l := HE.lt) | (go_at_call 61; (with_reducible refine (CP.out _ HB).mono ?_); rintro e w4 ⟨rfl, hbk⟩; (with_reducible (replace HB := HB.up hbk; replace HA := HA.up hbk; replace HD := HD.up hbk; replace HE := HE.up hbk)); clear ha_0 ha_1 ha_2 ha_l hd_0 hd_1 hd_2 hd_l he_0 he_1 he_2 he_l) | fail)
  go_region_held3 (fun w' => w'.cell? ⟨w.heap.size, 0, none⟩ = some (.bool b0) ∧ w'.cell? ⟨w.heap.size, 1, none⟩ = some (.slice A n c) ∧ w'.cell? ⟨w.heap.size, 2, none⟩ = some (.slice A' n' c') ∧ w'.cell? ⟨w.heap.size + 1, 0, none⟩ = some (.bool b1) ∧ w'.cell? ⟨w.heap.size + 1, 1, none⟩ = some (.slice B m d) ∧ w'.cell? ⟨w.heap.size + 1, 2, none⟩ = some (.slice B' m' d') ∧ w'.cell? ⟨w.heap.size + 1 + 1, 0, none⟩ = some (.bool b2) ∧ w'.cell? ⟨w.heap.size + 1 + 1, 1, none⟩ = some (.slice C k e) ∧ w'.cell? ⟨w.heap.size + 1 + 1, 2, none⟩ = some (.slice C' k' e'))
    (first | with_reducible exact ⟨HA.dr.c0, HA.dr.c1, HA.dr.c2, HD.dr.c0, HD.dr.c1, HD.dr.c2, HE.dr.c0, HE.dr.c1, HE.dr.c2⟩ | with_reducible exact ⟨HA.c0, HA.c1, HA.c2, HD.c0, HD.c1, HD.c2, HE.c0, HE.c1, HE.c2⟩)
    (first | (go_at_call 62; (with_reducible refine (CX.out _ HB.dr).mono ?_); rintro e w5 ⟨xA, xc, xB, xd, rfl, zx, nx, hbk⟩; (with_reducible (replace HB := HB.dr.up hbk; replace HA := HA.dr.up hbk; replace HD := HD.dr.up hbk; replace HE := HE.dr.up hbk))) | (go_at_call 62; (with_reducible refine (CY.out _ HB).mono ?_); rintro e w6 ⟨yA, yc, yB, yd, rfl, zy, ny, hbk⟩; (with_reducible (replace HB := HB.up hbk; replace HA := HA.up hbk; replace HD := HD.up hbk; replace HE := HE.up hbk; replace zx := zx.up hbk; replace nx := nx.up hbk))) | (go_at_call 61; (with_reducible refine (CXY.out _ _ _ _ _ _ _ _ _ _ _ _ _ zx nx zy ny).mono ?_); rintro e w7 ⟨rfl, hbk⟩; (with_reducible (replace HB := HB.up hbk; replace HA := HA.up hbk; replace HD := HD.up hbk; replace HE := HE.up hbk))) | (go_at_call 65; (with_reducible refine (CU.out _ HB).mono ?_); rintro e w8 ⟨uA, uc, uB, ud, rfl, zu, nu, hbk⟩; (with_reducible (replace HB := HB.up hbk; replace HA := HA.up hbk; replace HD := HD.up hbk; replace HE := HE.up hbk))) | (go_at_call 65; (with_reducible refine (CV.out _ HB).mono ?_); rintro e w9 ⟨vA, vc, vB, vd, rfl, zv, nv, hbk⟩; (with_reducible (replace HB := HB.up hbk; replace HA := HA.up hbk; replace HD := HD.up hbk; replace HE := HE.up hbk; replace zu := zu.up hbk; replace nu := nu.up hbk))) | (go_at_call 61; (with_reducible refine (CUV.out _ _ _ _ _ _ _ _ _ _ _ _ _ zu nu zv nv).mono ?_); rintro e wa ⟨rfl, hbk⟩; (with_reducible (replace HB := HB.up hbk; replace HA := HA.up hbk; replace HD := HD.up hbk; replace HE := HE.up hbk)); have ha_0 := HA.c0; have ha_1 := HA.c1; have ha_2 := HA.c2; have ha_l := HA.lt; have hd_0 := HD.c0; have hd_1 := HD.c1; have hd_2 := HD.c2; have hd_l := HD.lt; have he_0 := HE.c0; have he_1 := HE.c1; have he_2 := HE.c2; have he_l := HE.lt) | fail)
  go_wp2_with (first | (go_at_call 66; (with_reducible refine (CSa.out _ HB).mono ?_); rintro e wb ⟨rfl, hbk⟩; (with_reducible (replace HB := HB.up hbk; replace HA := HA.up hbk; replace HD := HD.up hbk; replace HE := HE.up hbk)); clear ha_0 ha_1 ha_2 ha_l hd_0 hd_1 hd_2 hd_l he_0 he_1 he_2 he_l; have ha_0 := HA.c0; have ha_1 := HA.c1; have ha_2 := HA.c2; have ha_l := HA.lt; have hd_0 := HD.c0; have hd_1 := HD.c1; have hd_2 := HD.c2; have hd_l := HD.lt; have he_0 := HE.c0; have he_1 := HE.c1; have he_2 := HE.c2; have he_l := HE.lt) | fail)
  go_ret
  exact ⟨rfl, HB⟩
set_option maxHeartbeats 8000000 in
theorem rorder_b (w : World) (ha : QA w b0 A n c A' n' c' ra 12) (hb : QA w b1 B m d B' m' d' rb 12) (hc : QA w b2 C k e C' k' e' rc 12)
    (CLa : ∀ W, Calls Tryd.prog 58 #[.agg #[.bool b0, .slice A n c, .slice A' n' c']] W (BoolR W false)) (CLb : ∀ W, Calls Tryd.prog 58 #[.agg #[.bool b1, .slice B m d, .slice B' m' d']] W (BoolR W false)) (CLc : ∀ W, Calls Tryd.prog 58 #[.agg #[.bool b2, .slice C k e, .slice C' k' e']] W (BoolR W false))
    (CGa : ∀ W, Bel w W → Calls Tryd.prog 64 #[.agg #[.bool b0, .slice A n c, .slice A' n' c']] W (RetB W true)) (CGb : ∀ W, Bel w W → Calls Tryd.prog 64 #[.agg #[.bool b1, .slice B m d, .slice B' m' d']] W (RetB W true)) (CGc : ∀ W, Bel w W → Calls Tryd.prog 64 #[.agg #[.bool b2, .slice C k e, .slice C' k' e']] W (RetB W true)) (h1 : ¬ ra.num.sign ≤ 0) (h2 : rb.num.sign ≤ 0) :
    Calls Tryd.prog 8 #[.agg #[.bool b0, .slice A n c, .slice A' n' c'], .agg #[.bool b1, .slice B m d, .slice B' m' d'], .agg #[.bool b2, .slice C k e, .slice C' k' e']] w fun e w' => e = .returned (.bool true) ∧ Below w.heap.size w w' := by
  obtain ⟨p, hp⟩ : ∃ p, p = cmpR ra rb := ⟨_, rfl⟩
  obtain ⟨x, hx⟩ : ∃ x : Rat, x = ra + rc := ⟨_, rfl⟩
  obtain ⟨y, hy⟩ : ∃ y : Rat, y = rb + rc := ⟨_, rfl⟩
  obtain ⟨u, hu⟩ : ∃ u : Rat, u = -rb := ⟨_, rfl⟩
  obtain ⟨v, hv⟩ : ∃ v : Rat, v = -ra := ⟨_, rfl⟩
  obtain ⟨sx, hsx⟩ : ∃ s, s = decide (x.num < 0) := ⟨_, rfl⟩
  obtain ⟨sy, hsy⟩ : ∃ s, s = decide (y.num < 0) := ⟨_, rfl⟩
  obtain ⟨su, hsu⟩ : ∃ s, s = decide (u.num < 0) := ⟨_, rfl⟩
  obtain ⟨sv, hsv⟩ : ∃ s, s = decide (v.num < 0) := ⟨_, rfl⟩
  have ba : Bd ra 12 := qa_bd ha (by decide)
  have bb : Bd rb 12 := qa_bd hb (by decide)
  have bc : Bd rc 12 := qa_bd hc (by decide)
  have bx : Bd x 25 := by rw [hx]; exact ba.add bc
  have by' : Bd y 25 := by rw [hy]; exact bb.add bc
  have bu : Bd u 12 := by rw [hu]; exact bb.neg
  have bv : Bd v 12 := by rw [hv]; exact ba.neg
  have CP : Hid (∀ W, Bel w W → Calls Tryd.prog 61 #[.agg #[.bool b0, .slice A n c, .slice A' n' c'], .agg #[.bool b1, .slice B m d, .slice B' m' d']] W (IntPost W p)) := fun W h => by rw [hp]; exact rcmp_h (ha.up h) (hb.up h) (by decide) (by decide)
  have CX : Hid (∀ W, Bel w W → Calls Tryd.prog 62 #[.agg #[.bool b0, .slice A n c, .slice A' n' c'], .agg #[.bool b2, .slice C k e, .slice C' k' e']] W (QRv W sx x)) := fun W h => by rw [hsx, hx]; exact radd_h (ha.up h) (hc.up h) (by decide) (by decide)
  have CY : Hid (∀ W, Bel w W → Calls Tryd.prog 62 #[.agg #[.bool b1, .slice B m d, .slice B' m' d'], .agg #[.bool b2, .slice C k e, .slice C' k' e']] W (QRv W sy y)) := fun W h => by rw [hsy, hy]; exact radd_h (hb.up h) (hc.up h) (by decide) (by decide)
  have CXY : Hid (∀ W D1 n1 c1 D2 n2 c2 D3 n3 c3 D4 n4 c4, ZA W sx D1 n1 c1 x.num → Nm W D2 n2 c2 x.den → ZA W sy D3 n3 c3 y.num → Nm W D4 n4 c4 y.den → Calls Tryd.prog 61 #[.agg #[.bool sx, .slice D1 n1 c1, .slice D2 n2 c2], .agg #[.bool sy, .slice D3 n3 c3, .slice D4 n4 c4]] W (IntPost W p)) := fun W D1 n1 c1 D2 n2 c2 D3 n3 c3 D4 n4 c4 h1 h2 h3 h4 => by
    rw [hp, ← cmpR_add ra rb rc, ← hx, ← hy]
    exact rcmp_h (qa_of h1 h2 bx) (qa_of h3 h4 by') (by decide) (by decide)
  have CU : Hid (∀ W, Bel w W → Calls Tryd.prog 65 #[.agg #[.bool b1, .slice B m d, .slice B' m' d']] W (QRv W su u)) := fun W h => by rw [hsu, hu]; exact rneg_h (hb.up h) (by decide) (by decide)
  have CV : Hid (∀ W, Bel w W → Calls Tryd.prog 65 #[.agg #[.bool b0, .slice A n c, .slice A' n' c']] W (QRv W sv v)) := fun W h => by rw [hsv, hv]; exact rneg_h (ha.up h) (by decide) (by decide)
  have CUV : Hid (∀ W D1 n1 c1 D2 n2 c2 D3 n3 c3 D4 n4 c4, ZA W su D1 n1 c1 u.num → Nm W D2 n2 c2 u.den → ZA W sv D3 n3 c3 v.num → Nm W D4 n4 c4 v.den → Calls Tryd.prog 61 #[.agg #[.bool su, .slice D1 n1 c1, .slice D2 n2 c2], .agg #[.bool sv, .slice D3 n3 c3, .slice D4 n4 c4]] W (IntPost W p)) := fun W D1 n1 c1 D2 n2 c2 D3 n3 c3 D4 n4 c4 h1 h2 h3 h4 => by
    rw [hp, ← cmpR_neg ra rb, ← hu, ← hv]
    exact rcmp_h (qa_of h1 h2 bu) (qa_of h3 h4 bv) (by decide) (by decide)
  have CLa' := hide CLa
  have CLb' := hide CLb
  have CLc' := hide CLc
  have CGa' := hide CGa
  have CGb' := hide CGb
  have CGc' := hide CGc
  obtain ⟨va, hva, hwa⟩ : ∃ v, ra.num.sign = v ∧ ¬ v ≤ 0 := ⟨_, rfl, h1⟩
  have CSa : Hid (∀ W, Bel w W → Calls Tryd.prog 66 #[.agg #[.bool b0, .slice A n c, .slice A' n' c']] W (IntPost W va)) := fun W h => rsign_h (ha.up h) (by decide) hva
  obtain ⟨vb, hvb, hwb⟩ : ∃ v, rb.num.sign = v ∧ v ≤ 0 := ⟨_, rfl, h2⟩
  have CSb : Hid (∀ W, Bel w W → Calls Tryd.prog 66 #[.agg #[.bool b1, .slice B m d, .slice B' m' d']] W (IntPost W vb)) := fun W h => rsign_h (hb.up h) (by decide) hvb
  clear h1 hva h2 hvb
  clear CLa CLb CLc CGa CGb CGc
  have CLa := CLa'
  have CLb := CLb'
  have CLc := CLc'
  have CGa := CGa'
  have CGb := CGb'
  have CGc := CGc'
  clear CLa' CLb' CLc' CGa' CGb' CGc'
  clear ha hb hc hp hx hy hu hv hsx hsy hsu hsv ba bb bc bx by' bu bv
  have HB := Bel.refl w
  go_enter Tryd.func8, Tryd.ntmps8
  go_wp2_with (first | (go_at_call 57; (with_reducible refine (awake3_any _).mono ?_); rintro e w1 ⟨rfl, hbk⟩; (with_reducible (have HA : At w1 w.heap.size [.bool b0, .slice A n c, .slice A' n' c'] := At.up ((at_new0 _ _ _).al _ |>.al _) hbk; have HD : At w1 (w.heap.size + 1) [.bool b1, .slice B m d, .slice B' m' d'] := At.up ((at_new1 _ _ _ _).al _) hbk; have HE : At w1 (w.heap.size + 1 + 1) [.bool b2, .slice C k e, .slice C' k' e'] := At.up (at_new2 _ _ _ _ _) hbk; replace HB := (((HB.al _).al _).al _).up hbk)); have ha_0 := HA.c0; have ha_1 := HA.c1; have ha_2 := HA.c2; have ha_l := HA.lt; have hd_0 := HD.c0; have hd_1 := HD.c1; have hd_2 := HD.c2; have hd_l := HD.lt; have he_0 := HE.c0; have he_1 := HE.c1; have he_2 := HE.c2; have he_l := HE.lt) | (go_at_call 58; (with_reducible refine (CLa.out _).mono ?_); rintro e w2a ⟨rfl, hbk⟩; (with_reducible (replace HB := HB.up hbk; replace HA := HA.up hbk; replace HD := HD.up hbk; replace HE := HE.up hbk)); clear ha_0 ha_1 ha_2 ha_l hd_0 hd_1 hd_2 hd_l he_0 he_1 he_2 he_l; have ha_0 := HA.c0; have ha_1 := HA.c1; have ha_2 := HA.c2; have ha_l := HA.lt; have hd_0 := HD.c0; have hd_1 := HD.c1; have hd_2 := HD.c2; have hd_l := HD.lt; have he_0 := HE.c0; have he_1 := HE.c1; have he_2 := HE.c2; have he_l := HE.lt) | (go_at_call 58; (with_reducible refine (CLb.out _).mono ?_); rintro e w2b ⟨rfl, hbk⟩; (with_reducible (replace HB := HB.up hbk; replace HA := HA.up hbk; replace HD := HD.up hbk; replace HE := HE.up hbk)); clear ha_0 ha_1 ha_2 ha_l hd_0 hd_1 hd_2 hd_l he_0 he_1 he_2 he_l; have ha_0 := HA.c0; have ha_1 := HA.c1; have ha_2 := HA.c2; have ha_l := HA.lt; have hd_0 := HD.c0; have hd_1 := HD.c1; have hd_2 := HD.c2; have hd_l := HD.lt; have he_0 := HE.c0; have he_1 := HE.c1; have he_2 := HE.c2; have he_l := HE.lt) | (go_at_call 58; (with_reducible refine (CLc.out _).mono ?_); rintro e w2c ⟨rfl, hbk⟩; (with_reducible (replace HB := HB.up hbk; replace HA := HA.up hbk; replace HD := HD.up hbk; replace HE := HE.up hbk)); clear ha_0 ha_1 ha_2 ha_l hd_0 hd_1 hd_2 hd_l he_0 he_1 he_2 he_l; have ha_0 := HA.c0; have ha_1 := HA.c1; have ha_2 := HA.c2; have ha_l := HA.lt; have hd_0 := HD.c0; have hd_1 := HD.c1; have hd_2 := HD.c2; have hd_l := HD.lt; have he_0 := HE.c0; have he_1 := HE.c1; have he_2 := HE.c2; have he_l := HE.lt) | (go_at_call 64; (with_reducible refine (CGa.out _ HB).mono ?_); rintro e w3a ⟨rfl, hbk⟩; replace hbk := Bel.hid hbk; (with_reducible (replace HB := HB.up hbk; replace HA := HA.up hbk; replace HD := HD.up hbk; replace HE := HE.up hbk)); clear ha_0 ha_1 ha_2 ha_l hd_0 hd_1 hd_2 hd_l he_0 he_1 he_2 he_l; have ha_0 := HA.c0; have ha_1 := HA.c1; have ha_2 := HA.c2; have ha_l := HA.lt; have hd_0 := HD.c0; have hd_1 := HD.c1; have hd_2 := HD.c2; have hd_l := HD.lt; have he_0 := HE.c0; have he_1 := HE.c1; have he_2 := HE.c2; have he_l := HE.lt) | (go_at_call 64; (with_reducible refine (CGb.out _ HB).mono ?_); rintro e w3b ⟨rfl, hbk⟩; replace hbk := Bel.hid hbk; (with_reducible (replace HB := HB.up hbk; replace HA := HA.up hbk; replace HD := HD.up hbk; replace HE := HE.up hbk)); clear ha_0 ha_1 ha_2 ha_l hd_0 hd_1 hd_2 hd_l he_0 he_1 he_2 he_l; have ha_0 := HA.c0; have ha_1 := HA.c1; have ha_2 := HA.c2; have ha_l := HA.lt; have hd_0 := HD.c0; have hd_1 := HD.c1; have hd_2 := HD.c2; have hd_l := HD.lt; have he_0 := HE.c0; have he_1 := HE.c1; have he_2 := HE.c2; have he_l := HE.lt) | (go_at_call 64; (with_reducible refine (CGc.out _ HB).mono ?_); rintro e w3c ⟨rfl, hbk⟩; replace hbk := Bel.hid hbk; (with_reducible (replace HB := HB.up hbk; replace HA := HA.up hbk; replace HD := HD.up hbk; replace HE := HE.up hbk)); clear ha_0 ha_1 ha_2 ha_l hd_0 hd_1 hd_2 hd_l he_0 he_1 he_2 he_l; have ha_0 := HA.c0; have ha_1 := HA.c1; have ha_2 := HA.c2; have ha_l := HA.lt; have hd_0 := HD.c0; have hd_1 := HD.c1; have hd_2 := HD.c2; have hd_l := HD.lt; have he_0 := HE.c0; have he_1 := HE.c1; have he_2 := HE.c2; have he_l := HE.lt) | (go_at_call 61; (with_reducible refine (CP.out _ HB).mono ?_); rintro e w4 ⟨rfl, hbk⟩; (with_reducible (replace HB := HB.up hbk; replace HA := HA.up hbk; replace HD := HD.up hbk; replace HE := HE.up hbk)); clear ha_0 ha_1 ha_2 ha_l hd_0 hd_1 hd_2 hd_l he_0 he_1 he_2 he_l) | fail)
  go_region_held3 (fun w' => w'.cell? ⟨w.heap.size, 0, none⟩ = some (.bool b0) ∧ w'.cell? ⟨w.heap.size, 1, none⟩ = some (.slice A n c) ∧ w'.cell? ⟨w.heap.size, 2, none⟩ = some (.slice A' n' c') ∧ w'.cell? ⟨w.heap.size + 1, 0, none⟩ = some (.bool b1) ∧ w'.cell? ⟨w.heap.size + 1, 1, none⟩ = some (.slice B m d) ∧ w'.cell? ⟨w.heap.size + 1, 2, none⟩ = some (.slice B' m' d') ∧ w'.cell? ⟨w.heap.size + 1 + 1, 0, none⟩ = some (.bool b2) ∧ w'.cell? ⟨w.heap.size + 1 + 1, 1, none⟩ = some (.slice C k e) ∧ w'.cell? ⟨w.heap.size + 1 + 1, 2, none⟩ = some (.slice C' k' e'))
    (first | with_reducible exact ⟨HA.dr.c0, HA.dr.c1, HA.dr.c2, HD.dr.c0, HD.dr.c1, HD.dr.c2, HE.dr.c0, HE.dr.c1, HE.dr.c2⟩ | with_reducible exact ⟨HA.c0, HA.c1, HA.c2, HD.c0, HD.c1, HD.c2, HE.c0, HE.c1, HE.c2⟩)
    (first | (go_at_call 62; (with_reducible refine (CX.out _ HB.dr).mono ?_); rintro e w5 ⟨xA, xc, xB, xd, rfl, zx, nx, hbk⟩; (with_reducible (replace HB := HB.dr.up hbk; replace HA := HA.dr.up hbk; replace HD := HD.dr.up hbk; replace HE := HE.dr.up hbk))) | (go_at_call 62; (with_reducible refine (CY.out _ HB).mono ?_); rintro e w6 ⟨yA, yc, yB, yd, rfl, zy, ny, hbk⟩; (with_reducible (replace HB := HB.up hbk; replace HA := HA.up hbk; replace HD := HD.up hbk; replace HE := HE.up hbk; replace zx := zx.up hbk; replace nx := nx.up hbk))) | (go_at_call 61; (with_reducible refine (CXY.out _ _ _ _ _ _ _ _ _ _ _ _ _ zx nx zy ny).mono ?_); rintro e w7 ⟨rfl, hbk⟩; (with_reducible (replace HB := HB.up hbk; replace HA := HA.up hbk; replace HD := HD.up hbk; replace HE := HE.up hbk))) | (go_at_call 65; (with_reducible refine (CU.out _ HB).mono ?_); rintro e w8 ⟨uA, uc, uB, ud, rfl, zu, nu, hbk⟩; (with_reducible (replace HB := HB.up hbk; replace HA := HA.up hbk; replace HD := HD.up hbk; replace HE := HE.up hbk))) | (go_at_call 65; (with_reducible refine (CV.out _ HB).mono ?_); rintro e w9 ⟨vA, vc, vB, vd, rfl, zv, nv, hbk⟩; (with_reducible (replace HB := HB.up hbk; replace HA := HA.up hbk; replace HD := HD.up hbk; replace HE := HE.up hbk; replace zu := zu.up hbk; replace nu := nu.up hbk))) | (go_at_call 61; (with_reducible refine (CUV.out _ _ _ _ _ _ _ _ _ _ _ _ _ zu nu zv nv).mono ?_); rintro e wa ⟨rfl, hbk⟩; (with_reducible (replace HB := HB.up hbk; replace HA := HA.up hbk; replace HD := HD.up hbk; replace HE := HE.up hbk)); have ha_0 := HA.c0; have ha_1 := HA.c1; have ha_2 := HA.c2; have ha_l := HA.lt; have hd_0 := HD.c0; have hd_1 := HD.c1; have hd_2 := HD.c2; have hd_l := HD.lt; have he_0 := HE.c0; have he_1 := HE.c1; have he_2 := HE.c2; have he_l := HE.lt) | fail)
  go_wp2_with (first | (go_at_call 66; (with_reducible refine (CSa.out _ HB).mono ?_); rintro e wb ⟨rfl, hbk⟩; (with_reducible (replace HB := HB.up hbk; replace HA := HA.up hbk; replace HD := HD.up hbk; replace HE := HE.up hbk)); clear ha_0 ha_1 ha_2 ha_l hd_0 hd_1 hd_2 hd_l he_0 he_1 he_2 he_l; have ha_0 := HA.c0; have ha_1 := HA.c1; have ha_2 := HA.c2; have ha_l := HA.lt; have hd_0 := HD.c0; have hd_1 := HD.c1; have hd_2 := HD.c2; have hd_l := HD.lt; have he_0 := HE.c0; have he_1 := HE.c1; have he_2 := HE.c2; have he_l := HE.lt) | (go_at_call 66; (with_reducible refine (CSb.out _ HB).mono ?_); rintro e wc ⟨rfl, hbk⟩; (with_reducible (replace HB := HB.up hbk; replace HA := HA.up hbk; replace HD := HD.up hbk; replace HE := HE.up hbk)); clear ha_0 ha_1 ha_2 ha_l hd_0 hd_1 hd_2 hd_l he_0 he_1 he_2 he_l; have ha_0 := HA.c0; have ha_1 := HA.c1; have ha_2 := HA.c2; have ha_l := HA.lt; have hd_0 := HD.c0; have hd_1 := HD.c1; have hd_2 := HD.c2; have hd_l := HD.lt; have he_0 := HE.c0; have he_1 := HE.c1; have he_2 := HE.c2; have he_l := HE.lt) | fail)
  go_ret
  exact ⟨rfl, HB⟩
set_option maxHeartbeats 8000000 in
theorem rorder_c (w : World) (ha : QA w b0 A n c A' n' c' ra 12) (hb : QA w b1 B m d B' m' d' rb 12) (hc : QA w b2 C k e C' k' e' rc 12)
    (CLa : ∀ W, Calls Tryd.prog 58 #[.agg #[.bool b0, .slice A n c, .slice A' n' c']] W (BoolR W false)) (CLb : ∀ W, Calls Tryd.prog 58 #[.agg #[.bool b1, .slice B m d, .slice B' m' d']] W (BoolR W false)) (CLc : ∀ W, Calls Tryd.prog 58 #[.agg #[.bool b2, .slice C k e, .slice C' k' e']] W (BoolR W false))
    (CGa : ∀ W, Bel w W → Calls Tryd.prog 64 #[.agg #[.bool b0, .slice A n c, .slice A' n' c']] W (RetB W true)) (CGb : ∀ W, Bel w W → Calls Tryd.prog 64 #[.agg #[.bool b1, .slice B m d, .slice B' m' d']] W (RetB W true)) (CGc : ∀ W, Bel w W → Calls Tryd.prog 64 #[.agg #[.bool b2, .slice C k e, .slice C' k' e']] W (RetB W true)) (h1 : ¬ ra.num.sign ≤ 0) (h2 : ¬ rb.num.sign ≤ 0) :
    Calls Tryd.prog 8 #[.agg #[.bool b0, .slice A n c, .slice A' n' c'], .agg #[.bool b1, .slice B m d, .slice B' m' d'], .agg #[.bool b2, .slice C k e, .slice C' k' e']] w fun e w' => e = .returned (.bool true) ∧ Below w.heap.size w w' := by
  obtain ⟨p, hp⟩ : ∃ p, p = cmpR ra rb := ⟨_, rfl⟩
  obtain ⟨x, hx⟩ : ∃ x : Rat, x = ra + rc := ⟨_, rfl⟩
  obtain ⟨y, hy⟩ : ∃ y : Rat, y = rb + rc := ⟨_, rfl⟩
  obtain ⟨u, hu⟩ : ∃ u : Rat, u = -rb := ⟨_, rfl⟩
  obtain ⟨v, hv⟩ : ∃ v : Rat, v = -ra := ⟨_, rfl⟩
  obtain ⟨sx, hsx⟩ : ∃ s, s = decide (x.num < 0) := ⟨_, rfl⟩
  obtain ⟨sy, hsy⟩ : ∃ s, s = decide (y.num < 0) := ⟨_, rfl⟩
  obtain ⟨su, hsu⟩ : ∃ s, s = decide (u.num < 0) := ⟨_, rfl⟩
  obtain ⟨sv, hsv⟩ : ∃ s, s = decide (v.num < 0) := ⟨_, rfl⟩
  have ba : Bd ra 12 := qa_bd ha (by decide)
  have bb : Bd rb 12 := qa_bd hb (by decide)
  have bc : Bd rc 12 := qa_bd hc (by decide)
  have bx : Bd x 25 := by rw [hx]; exact ba.add bc
  have by' : Bd y 25 := by rw [hy]; exact bb.add bc
  have bu : Bd u 12 := by rw [hu]; exact bb.neg
  have bv : Bd v 12 := by rw [hv]; exact ba.neg
  have CP : Hid (∀ W, Bel w W → Calls Tryd.prog 61 #[.agg #[.bool b0, .slice A n c, .slice A' n' c'], .agg #[.bool b1, .slice B m d, .slice B' m' d']] W (IntPost W p)) := fun W h => by rw [hp]; exact rcmp_h (ha.up h) (hb.up h) (by decide) (by decide)
  have CX : Hid (∀ W, Bel w W → Calls Tryd.prog 62 #[.agg #[.bool b0, .slice A n c, .slice A' n' c'], .agg #[.bool b2, .slice C k e, .slice C' k' e']] W (QRv W sx x)) := fun W h => by rw [hsx, hx]; exact radd_h (ha.up h) (hc.up h) (by decide) (by decide)
  have CY : Hid (∀ W, Bel w W → Calls Tryd.prog 62 #[.agg #[.bool b1, .slice B m d, .slice B' m' d'], .agg #[.bool b2, .slice C k e, .slice C' k' e']] W (QRv W sy y)) := fun W h => by rw [hsy, hy]; exact radd_h (hb.up h) (hc.up h) (by decide) (by decide)
  have CXY : Hid (∀ W D1 n1 c1 D2 n2 c2 D3 n3 c3 D4 n4 c4, ZA W sx D1 n1 c1 x.num → Nm W D2 n2 c2 x.den → ZA W sy D3 n3 c3 y.num → Nm W D4 n4 c4 y.den → Calls Tryd.prog 61 #[.agg #[.bool sx, .slice D1 n1 c1, .slice D2 n2 c2], .agg #[.bool sy, .slice D3 n3 c3, .slice D4 n4 c4]] W (IntPost W p)) := fun W D1 n1 c1 D2 n2 c2 D3 n3 c3 D4 n4 c4 h1 h2 h3 h4 => by
    rw [hp, ← cmpR_add ra rb rc, ← hx, ← hy]
    exact rcmp_h (qa_of h1 h2 bx) (qa_of h3 h4 by') (by decide) (by decide)
  have CU : Hid (∀ W, Bel w W → Calls Tryd.prog 65 #[.agg #[.bool b1, .slice B m d, .slice B' m' d']] W (QRv W su u)) := fun W h => by rw [hsu, hu]; exact rneg_h (hb.up h) (by decide) (by decide)
  have CV : Hid (∀ W, Bel w W → Calls Tryd.prog 65 #[.agg #[.bool b0, .slice A n c, .slice A' n' c']] W (QRv W sv v)) := fun W h => by rw [hsv, hv]; exact rneg_h (ha.up h) (by decide) (by decide)
  have CUV : Hid (∀ W D1 n1 c1 D2 n2 c2 D3 n3 c3 D4 n4 c4, ZA W su D1 n1 c1 u.num → Nm W D2 n2 c2 u.den → ZA W sv D3 n3 c3 v.num → Nm W D4 n4 c4 v.den → Calls Tryd.prog 61 #[.agg #[.bool su, .slice D1 n1 c1, .slice D2 n2 c2], .agg #[.bool sv, .slice D3 n3 c3, .slice D4 n4 c4]] W (IntPost W p)) := fun W D1 n1 c1 D2 n2 c2 D3 n3 c3 D4 n4 c4 h1 h2 h3 h4 => by
    rw [hp, ← cmpR_neg ra rb, ← hu, ← hv]
    exact rcmp_h (qa_of h1 h2 bu) (qa_of h3 h4 bv) (by decide) (by decide)
  have CLa' := hide CLa
  have CLb' := hide CLb
  have CLc' := hide CLc
  have CGa' := hide CGa
  have CGb' := hide CGb
  have CGc' := hide CGc
  obtain ⟨va, hva, hwa⟩ : ∃ v, ra.num.sign = v ∧ ¬ v ≤ 0 := ⟨_, rfl, h1⟩
  have CSa : Hid (∀ W, Bel w W → Calls Tryd.prog 66 #[.agg #[.bool b0, .slice A n c, .slice A' n' c']] W (IntPost W va)) := fun W h => rsign_h (ha.up h) (by decide) hva
  obtain ⟨vb, hvb, hwb⟩ : ∃ v, rb.num.sign = v ∧ ¬ v ≤ 0 := ⟨_, rfl, h2⟩
  have CSb : Hid (∀ W, Bel w W → Calls Tryd.prog 66 #[.agg #[.bool b1, .slice B m d, .slice B' m' d']] W (IntPost W vb)) := fun W h => rsign_h (hb.up h) (by decide) hvb
  have pa := pos_of_sign h1
  have pb := pos_of_sign h2
  obtain ⟨i, hi⟩ : ∃ i, i = ra⁻¹ := ⟨_, rfl⟩
  obtain ⟨j, hj⟩ : ∃ j, j = rb⁻¹ := ⟨_, rfl⟩
  obtain ⟨si, hsi⟩ : ∃ s, s = decide (i.num < 0) := ⟨_, rfl⟩
  obtain ⟨sj, hsj⟩ : ∃ s, s = decide (j.num < 0) := ⟨_, rfl⟩
  have CI : Hid (∀ W, Bel w W → Calls Tryd.prog 67 #[.agg #[.bool b0, .slice A n c, .slice A' n' c']] W (OfYs2 W si i)) := fun W h => by rw [hsi, hi]; exact inv_yes (ha.up h) (by decide) (by decide) (Rat.ne_of_gt pa)
  have CJ : Hid (∀ W, Bel w W → Calls Tryd.prog 67 #[.agg #[.bool b1, .slice B m d, .slice B' m' d']] W (OfYs2 W sj j)) := fun W h => by rw [hsj, hj]; exact inv_yes (hb.up h) (by decide) (by decide) (Rat.ne_of_gt pb)
  have CIJ : Hid (∀ W D1 n1 c1 D2 n2 c2 D3 n3 c3 D4 n4 c4, ZA W sj D1 n1 c1 j.num → Nm W D2 n2 c2 j.den → ZA W si D3 n3 c3 i.num → Nm W D4 n4 c4 i.den → Calls Tryd.prog 61 #[.agg #[.bool sj, .slice D1 n1 c1, .slice D2 n2 c2], .agg #[.bool si, .slice D3 n3 c3, .slice D4 n4 c4]] W (IntPost W p)) := fun W D1 n1 c1 D2 n2 c2 D3 n3 c3 D4 n4 c4 g1 g2 g3 g4 => by
    rw [hp, ← cmpR_inv pa pb, ← hi, ← hj]
    exact rcmp_h (qa_of g1 g2 (by rw [hj]; exact bb.inv (Rat.ne_of_gt pb))) (qa_of g3 g4 (by rw [hi]; exact ba.inv (Rat.ne_of_gt pa))) (by decide) (by decide)
  clear hva h1 hvb h2 pa pb hi hj hsi hsj
  clear CLa CLb CLc CGa CGb CGc
  have CLa := CLa'
  have CLb := CLb'
  have CLc := CLc'
  have CGa := CGa'
  have CGb := CGb'
  have CGc := CGc'
  clear CLa' CLb' CLc' CGa' CGb' CGc'
  clear ha hb hc hp hx hy hu hv hsx hsy hsu hsv ba bb bc bx by' bu bv
  have HB := Bel.refl w
  go_enter Tryd.func8, Tryd.ntmps8
  go_wp2_with (first | (go_at_call 57; (with_reducible refine (awake3_any _).mono ?_); rintro e w1 ⟨rfl, hbk⟩; (with_reducible (have HA : At w1 w.heap.size [.bool b0, .slice A n c, .slice A' n' c'] := At.up ((at_new0 _ _ _).al _ |>.al _) hbk; have HD : At w1 (w.heap.size + 1) [.bool b1, .slice B m d, .slice B' m' d'] := At.up ((at_new1 _ _ _ _).al _) hbk; have HE : At w1 (w.heap.size + 1 + 1) [.bool b2, .slice C k e, .slice C' k' e'] := At.up (at_new2 _ _ _ _ _) hbk; replace HB := (((HB.al _).al _).al _).up hbk)); have ha_0 := HA.c0; have ha_1 := HA.c1; have ha_2 := HA.c2; have ha_l := HA.lt; have hd_0 := HD.c0; have hd_1 := HD.c1; have hd_2 := HD.c2; have hd_l := HD.lt; have he_0 := HE.c0; have he_1 := HE.c1; have he_2 := HE.c2; have he_l := HE.lt) | (go_at_call 58; (with_reducible refine (CLa.out _).mono ?_); rintro e w2a ⟨rfl, hbk⟩; (with_reducible (replace HB := HB.up hbk; replace HA := HA.up hbk; replace HD := HD.up hbk; replace HE := HE.up hbk)); clear ha_0 ha_1 ha_2 ha_l hd_0 hd_1 hd_2 hd_l he_0 he_1 he_2 he_l; have ha_0 := HA.c0; have ha_1 := HA.c1; have ha_2 := HA.c2; have ha_l := HA.lt; have hd_0 := HD.c0; have hd_1 := HD.c1; have hd_2 := HD.c2; have hd_l := HD.lt; have he_0 := HE.c0; have he_1 := HE.c1; have he_2 := HE.c2; have he_l := HE.lt) | (go_at_call 58; (with_reducible refine (CLb.out _).mono ?_); rintro e w2b ⟨rfl, hbk⟩; (with_reducible (replace HB := HB.up hbk; replace HA := HA.up hbk; replace HD := HD.up hbk; replace HE := HE.up hbk)); clear ha_0 ha_1 ha_2 ha_l hd_0 hd_1 hd_2 hd_l he_0 he_1 he_2 he_l; have ha_0 := HA.c0; have ha_1 := HA.c1; have ha_2 := HA.c2; have ha_l := HA.lt; have hd_0 := HD.c0; have hd_1 := HD.c1; have hd_2 := HD.c2; have hd_l := HD.lt; have he_0 := HE.c0; have he_1 := HE.c1; have he_2 := HE.c2; have he_l := HE.lt) | (go_at_call 58; (with_reducible refine (CLc.out _).mono ?_); rintro e w2c ⟨rfl, hbk⟩; (with_reducible (replace HB := HB.up hbk; replace HA := HA.up hbk; replace HD := HD.up hbk; replace HE := HE.up hbk)); clear ha_0 ha_1 ha_2 ha_l hd_0 hd_1 hd_2 hd_l he_0 he_1 he_2 he_l; have ha_0 := HA.c0; have ha_1 := HA.c1; have ha_2 := HA.c2; have ha_l := HA.lt; have hd_0 := HD.c0; have hd_1 := HD.c1; have hd_2 := HD.c2; have hd_l := HD.lt; have he_0 := HE.c0; have he_1 := HE.c1; have he_2 := HE.c2; have he_l := HE.lt) | (go_at_call 64; (with_reducible refine (CGa.out _ HB).mono ?_); rintro e w3a ⟨rfl, hbk⟩; replace hbk := Bel.hid hbk; (with_reducible (replace HB := HB.up hbk; replace HA := HA.up hbk; replace HD := HD.up hbk; replace HE := HE.up hbk)); clear ha_0 ha_1 ha_2 ha_l hd_0 hd_1 hd_2 hd_l he_0 he_1 he_2 he_l; have ha_0 := HA.c0; have ha_1 := HA.c1; have ha_2 := HA.c2; have ha_l := HA.lt; have hd_0 := HD.c0; have hd_1 := HD.c1; have hd_2 := HD.c2; have hd_l := HD.lt; have he_0 := HE.c0; have he_1 := HE.c1; have he_2 := HE.c2; have he_l := HE.lt) | (go_at_call 64; (with_reducible refine (CGb.out _ HB).mono ?_); rintro e w3b ⟨rfl, hbk⟩; replace hbk := Bel.hid hbk; (with_reducible (replace HB := HB.up hbk; replace HA := HA.up hbk; replace HD := HD.up hbk; replace HE := HE.up hbk)); clear ha_0 ha_1 ha_2 ha_l hd_0 hd_1 hd_2 hd_l he_0 he_1 he_2 he_l; have ha_0 := HA.c0; have ha_1 := HA.c1; have ha_2 := HA.c2; have ha_l := HA.lt; have hd_0 := HD.c0; have hd_1 := HD.c1; have hd_2 := HD.c2; have hd_l := HD.lt; have he_0 := HE.c0; have he_1 := HE.c1; have he_2 := HE.c2; have he_l := HE.lt) | (go_at_call 64; (with_reducible refine (CGc.out _ HB).mono ?_); rintro e w3c ⟨rfl, hbk⟩; replace hbk := Bel.hid hbk; (with_reducible (replace HB := HB.up hbk; replace HA := HA.up hbk; replace HD := HD.up hbk; replace HE := HE.up hbk)); clear ha_0 ha_1 ha_2 ha_l hd_0 hd_1 hd_2 hd_l he_0 he_1 he_2 he_l; have ha_0 := HA.c0; have ha_1 := HA.c1; have ha_2 := HA.c2; have ha_l := HA.lt; have hd_0 := HD.c0; have hd_1 := HD.c1; have hd_2 := HD.c2; have hd_l := HD.lt; have he_0 := HE.c0; have he_1 := HE.c1; have he_2 := HE.c2; have he_l := HE.lt) | (go_at_call 61; (with_reducible refine (CP.out _ HB).mono ?_); rintro e w4 ⟨rfl, hbk⟩; (with_reducible (replace HB := HB.up hbk; replace HA := HA.up hbk; replace HD := HD.up hbk; replace HE := HE.up hbk)); clear ha_0 ha_1 ha_2 ha_l hd_0 hd_1 hd_2 hd_l he_0 he_1 he_2 he_l) | fail)
  go_region_held3 (fun w' => w'.cell? ⟨w.heap.size, 0, none⟩ = some (.bool b0) ∧ w'.cell? ⟨w.heap.size, 1, none⟩ = some (.slice A n c) ∧ w'.cell? ⟨w.heap.size, 2, none⟩ = some (.slice A' n' c') ∧ w'.cell? ⟨w.heap.size + 1, 0, none⟩ = some (.bool b1) ∧ w'.cell? ⟨w.heap.size + 1, 1, none⟩ = some (.slice B m d) ∧ w'.cell? ⟨w.heap.size + 1, 2, none⟩ = some (.slice B' m' d') ∧ w'.cell? ⟨w.heap.size + 1 + 1, 0, none⟩ = some (.bool b2) ∧ w'.cell? ⟨w.heap.size + 1 + 1, 1, none⟩ = some (.slice C k e) ∧ w'.cell? ⟨w.heap.size + 1 + 1, 2, none⟩ = some (.slice C' k' e'))
    (first | with_reducible exact ⟨HA.dr.c0, HA.dr.c1, HA.dr.c2, HD.dr.c0, HD.dr.c1, HD.dr.c2, HE.dr.c0, HE.dr.c1, HE.dr.c2⟩ | with_reducible exact ⟨HA.c0, HA.c1, HA.c2, HD.c0, HD.c1, HD.c2, HE.c0, HE.c1, HE.c2⟩)
    (first | (go_at_call 62; (with_reducible refine (CX.out _ HB.dr).mono ?_); rintro e w5 ⟨xA, xc, xB, xd, rfl, zx, nx, hbk⟩; (with_reducible (replace HB := HB.dr.up hbk; replace HA := HA.dr.up hbk; replace HD := HD.dr.up hbk; replace HE := HE.dr.up hbk))) | (go_at_call 62; (with_reducible refine (CY.out _ HB).mono ?_); rintro e w6 ⟨yA, yc, yB, yd, rfl, zy, ny, hbk⟩; (with_reducible (replace HB := HB.up hbk; replace HA := HA.up hbk; replace HD := HD.up hbk; replace HE := HE.up hbk; replace zx := zx.up hbk; replace nx := nx.up hbk))) | (go_at_call 61; (with_reducible refine (CXY.out _ _ _ _ _ _ _ _ _ _ _ _ _ zx nx zy ny).mono ?_); rintro e w7 ⟨rfl, hbk⟩; (with_reducible (replace HB := HB.up hbk; replace HA := HA.up hbk; replace HD := HD.up hbk; replace HE := HE.up hbk))) | (go_at_call 65; (with_reducible refine (CU.out _ HB).mono ?_); rintro e w8 ⟨uA, uc, uB, ud, rfl, zu, nu, hbk⟩; (with_reducible (replace HB := HB.up hbk; replace HA := HA.up hbk; replace HD := HD.up hbk; replace HE := HE.up hbk))) | (go_at_call 65; (with_reducible refine (CV.out _ HB).mono ?_); rintro e w9 ⟨vA, vc, vB, vd, rfl, zv, nv, hbk⟩; (with_reducible (replace HB := HB.up hbk; replace HA := HA.up hbk; replace HD := HD.up hbk; replace HE := HE.up hbk; replace zu := zu.up hbk; replace nu := nu.up hbk))) | (go_at_call 61; (with_reducible refine (CUV.out _ _ _ _ _ _ _ _ _ _ _ _ _ zu nu zv nv).mono ?_); rintro e wa ⟨rfl, hbk⟩; (with_reducible (replace HB := HB.up hbk; replace HA := HA.up hbk; replace HD := HD.up hbk; replace HE := HE.up hbk)); have ha_0 := HA.c0; have ha_1 := HA.c1; have ha_2 := HA.c2; have ha_l := HA.lt; have hd_0 := HD.c0; have hd_1 := HD.c1; have hd_2 := HD.c2; have hd_l := HD.lt; have he_0 := HE.c0; have he_1 := HE.c1; have he_2 := HE.c2; have he_l := HE.lt) | fail)
  go_wp2_with (first | (go_at_call 66; (with_reducible refine (CSa.out _ HB).mono ?_); rintro e wb ⟨rfl, hbk⟩; (with_reducible (replace HB := HB.up hbk; replace HA := HA.up hbk; replace HD := HD.up hbk; replace HE := HE.up hbk)); clear ha_0 ha_1 ha_2 ha_l hd_0 hd_1 hd_2 hd_l he_0 he_1 he_2 he_l; have ha_0 := HA.c0; have ha_1 := HA.c1; have ha_2 := HA.c2; have ha_l := HA.lt; have hd_0 := HD.c0; have hd_1 := HD.c1; have hd_2 := HD.c2; have hd_l := HD.lt; have he_0 := HE.c0; have he_1 := HE.c1; have he_2 := HE.c2; have he_l := HE.lt) | (go_at_call 66; (with_reducible refine (CSb.out _ HB).mono ?_); rintro e wc ⟨rfl, hbk⟩; (with_reducible (replace HB := HB.up hbk; replace HA := HA.up hbk; replace HD := HD.up hbk; replace HE := HE.up hbk)); clear ha_0 ha_1 ha_2 ha_l hd_0 hd_1 hd_2 hd_l he_0 he_1 he_2 he_l; have ha_0 := HA.c0; have ha_1 := HA.c1; have ha_2 := HA.c2; have ha_l := HA.lt; have hd_0 := HD.c0; have hd_1 := HD.c1; have hd_2 := HD.c2; have hd_l := HD.lt; have he_0 := HE.c0; have he_1 := HE.c1; have he_2 := HE.c2; have he_l := HE.lt) | (go_at_call 67; (with_reducible refine (CI.out _ HB).mono ?_); rintro e wd ⟨iA, ic, iB, id, rfl, zi1, ni1, hbk⟩; (with_reducible (replace HB := HB.up hbk; replace HA := HA.up hbk; replace HD := HD.up hbk; replace HE := HE.up hbk)); clear ha_0 ha_1 ha_2 ha_l hd_0 hd_1 hd_2 hd_l he_0 he_1 he_2 he_l; have ha_0 := HA.c0; have ha_1 := HA.c1; have ha_2 := HA.c2; have ha_l := HA.lt; have hd_0 := HD.c0; have hd_1 := HD.c1; have hd_2 := HD.c2; have hd_l := HD.lt; have he_0 := HE.c0; have he_1 := HE.c1; have he_2 := HE.c2; have he_l := HE.lt) | (go_at_call 67; (with_reducible refine (CJ.out _ (HB.al _)).mono ?_); rintro e we ⟨jA, jc, jB, jd, rfl, zj1, nj1, hbk⟩; (with_reducible (have HX : At we wd.heap.size [.bool si, .slice iA (dl i.num.natAbs) ic, .slice iB (dl i.den) id] := At.up (at_new0 _ _ _) hbk; replace HB := (HB.al _).up hbk; replace zi1 := (zi1.al _).up hbk; replace ni1 := (ni1.al _).up hbk)); clear ha_0 ha_1 ha_2 ha_l hd_0 hd_1 hd_2 hd_l he_0 he_1 he_2 he_l HA HD HE; have hx_0 := HX.c0; have hx_1 := HX.c1; have hx_2 := HX.c2; have hx_l := HX.lt) | (go_at_call 61; (with_reducible refine (CIJ.out _ _ _ _ _ _ _ _ _ _ _ _ _ (zj1.al _) (nj1.al _) (zi1.al _) (ni1.al _)).mono ?_); rintro e wf ⟨rfl, hbk⟩; (with_reducible (replace HB := (HB.al _).up hbk)); clear hx_0 hx_1 hx_2 hx_l) | fail)
  go_ret
  exact ⟨rfl, HB⟩
end
end Go.Proofs.YtfknclimoihfdaaDoor
end

section
/- RatOrder over all inputs. No conditions. -/
open Go.RowKit
set_option maxRecDepth 100000
namespace Go.Proofs.YtfknclimoihfdaaDoor
theorem rorder_walk {b0 b1 b2 : Bool} {A A' B B' C C' : Option Addr} {n c n' c' m d m' d' k e k' e' : Nat} {z0 z0' z1 z1' z2 z2' : List Nat} (w : World)
    (h0 : n = z0.length ∧ n ≤ c ∧ Rd U32 w w.heap.size A z0 ∧ Good32 z0) (h0' : n' = z0'.length ∧ n' ≤ c' ∧ Rd U32 w w.heap.size A' z0' ∧ Good32 z0')
    (h1 : m = z1.length ∧ m ≤ d ∧ Rd U32 w w.heap.size B z1 ∧ Good32 z1) (h1' : m' = z1'.length ∧ m' ≤ d' ∧ Rd U32 w w.heap.size B' z1' ∧ Good32 z1')
    (h2 : k = z2.length ∧ k ≤ e ∧ Rd U32 w w.heap.size C z2 ∧ Good32 z2) (h2' : k' = z2'.length ∧ k' ≤ e' ∧ Rd U32 w w.heap.size C' z2' ∧ Good32 z2') :
    Calls Tryd.prog 8 #[.agg #[.bool b0, .slice A n c, .slice A' n' c'], .agg #[.bool b1, .slice B m d, .slice B' m' d'], .agg #[.bool b2, .slice C k e, .slice C' k' e']] w fun e w' => e = .returned (.bool true) ∧ Below w.heap.size w w' := by
  by_cases la : n ≤ 12 ∧ n' ≤ 12
  · have CLa := fun W => rlong_h (W := W) (b := b0) (A := A) (A' := A') (c := c) (c' := c') la.1 la.2
    by_cases lb : m ≤ 12 ∧ m' ≤ 12
    · have CLb := fun W => rlong_h (W := W) (b := b1) (A := B) (A' := B') (c := d) (c' := d') lb.1 lb.2
      by_cases lc : k ≤ 12 ∧ k' ≤ 12
      · have CLc := fun W => rlong_h (W := W) (b := b2) (A := C) (A' := C') (c := e) (c' := e') lc.1 lc.2
        have ha := qa_in (b := b0) h0 h0' la
        have hb := qa_in (b := b1) h1 h1' lb
        have hc := qa_in (b := b2) h2 h2' lc
        obtain ⟨ga, CGa⟩ := rgood_e ha (by decide)
        obtain ⟨gb, CGb⟩ := rgood_e hb (by decide)
        obtain ⟨gc, CGc⟩ := rgood_e hc (by decide)
        cases ga
        · exact ratorder_x3 w CLa CLb CLc CGa
        · cases gb
          · exact ratorder_x4 w CLa CLb CLc CGa CGb
          · cases gc
            · exact ratorder_x5 w CLa CLb CLc CGa CGb CGc
            · by_cases s1 : (mkRat (zi b0 (val W32 z0)) (val W32 z0')).num.sign ≤ 0
              · exact rorder_a w ha hb hc CLa CLb CLc CGa CGb CGc s1
              · by_cases s2 : (mkRat (zi b1 (val W32 z1)) (val W32 z1')).num.sign ≤ 0
                · exact rorder_b w ha hb hc CLa CLb CLc CGa CGb CGc s1 s2
                · exact rorder_c w ha hb hc CLa CLb CLc CGa CGb CGc s1 s2
      · exact ratorder_x2 w CLa CLb (fun W => rlong_n (W := W) lc)
    · exact ratorder_x1 w CLa (fun W => rlong_n (W := W) lb)
  · exact ratorder_x0 w (fun W => rlong_n (W := W) la)
end Go.Proofs.YtfknclimoihfdaaDoor
end
