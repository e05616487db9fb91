/- Several texts in one, each with its own sentence and conditions. -/
import Derived.Test.YtfknclimoihfdaaDoorGFlc24
section
/- RatFloor's walk. No conditions. -/
open Go.RowKit
set_option maxRecDepth 100000
namespace Go.Proofs.YtfknclimoihfdaaDoor
section
variable {b : Bool} {A A' : Option Addr} {n c n' c' : Nat} {r : Rat}
set_option maxHeartbeats 8000000 in
theorem rfloor_main (w : World) (h : QA w b A n c A' n' c' r 12) (hn : n ≤ 12) (hn' : n' ≤ 12) :
    Calls Tryd.prog 7 #[.agg #[.bool b, .slice A n c, .slice A' n' c']] w fun e w' => e = .returned (.bool true) ∧ Below w.heap.size w w' := by
  obtain ⟨f, hf⟩ : ∃ f, f = r.floor := ⟨_, rfl⟩
  obtain ⟨x, hx⟩ : ∃ x : Rat, x = (f : Rat) := ⟨_, rfl⟩
  obtain ⟨u, hu⟩ : ∃ u : Rat, u = ((1 : Int) : Rat) := ⟨_, rfl⟩
  obtain ⟨y, hy⟩ : ∃ y : Rat, y = x + u := ⟨_, rfl⟩
  obtain ⟨sf, hsf⟩ : ∃ s, s = decide (f < 0) := ⟨_, rfl⟩
  obtain ⟨sx, hsx⟩ : ∃ s, s = decide (x.num < 0) := ⟨_, rfl⟩
  obtain ⟨su, hsu⟩ : ∃ s, s = decide (u.num < 0) := ⟨_, rfl⟩
  obtain ⟨sy, hsy⟩ : ∃ s, s = decide (y.num < 0) := ⟨_, rfl⟩
  have br : Bd r 12 := qa_bd h (by decide)
  have bf : f.natAbs < W32 ^ 12 := by rw [hf]; exact bd_floor br
  have bx : Bd x 12 := by rw [hx]; exact bd_int bf (by decide)
  have bu : Bd u 12 := by rw [hu]; exact bd_int (w32_two (by decide) (by decide)) (by decide)
  have by' : Bd y 25 := by rw [hy]; exact bx.add bu
  obtain ⟨v1, hv1, hw1⟩ : ∃ v, v = cmpR x r ∧ v ≤ 0 := by
    refine ⟨_, rfl, ?_⟩
    unfold cmpR
    have h1 : ¬ r < x := by rw [Rat.not_lt, hx, hf]; exact Rat.floor_le r
    rw [if_neg h1]
    split <;> decide
  obtain ⟨v2, hv2, hw2⟩ : ∃ v, v = cmpR r y ∧ v < 0 := by
    refine ⟨_, rfl, ?_⟩
    unfold cmpR
    have h1 : r < y := by
      rw [hy, hx, hf, hu]
      have := Rat.lt_floor_add_one r
      rwa [Rat.intCast_add] at this
    rw [if_pos h1]; decide
  have CL := hide (fun W => rlong_h (W := W) (b := b) (A := A) (A' := A') (c := c) (c' := c') hn hn')
  have CF : Hid (∀ W', Bel w W' → Calls Tryd.prog 59 #[.agg #[.bool b, .slice A n c, .slice A' n' c']] W' (ZRs W' sf f)) := fun W' hb => by rw [hsf]; exact floor_h (h.up hb) (by decide) (by decide) hf.symm
  have C1 : Hid (∀ W', Calls Tryd.prog 11 #[.int .u64 1] W' (NumR W' 1)) := fun W' => of_h (v := 1) (by omega)
  have CO : Hid (∀ W' B k e B' k' e', ZA W' sf B k e f → Nm W' B' k' e' 1 → Calls Tryd.prog 60 #[.agg #[.bool sf, .slice B k e], .agg #[.slice B' k' e']] W' (OfYs W' sx x)) := fun W' B k e B' k' e' h1 h2 => by
    rw [hsx]
    exact of_yes h1 h2 (by decide) (by rw [hx, Rat.mkRat_one]) (dl_bd2 bf (by decide)) (by rw [dl_one]; decide)
  have CI : Hid (∀ W', Calls Tryd.prog 63 #[.int .i64 1] W' (QRs W' su u)) := fun W' => by rw [hsu, hu]; exact int_h (by decide) (by decide)
  have CA : Hid (∀ W' B k e B' k' e' D m g D' m' g', ZA W' sx B k e x.num → Nm W' B' k' e' x.den → ZA W' su D m g u.num → Nm W' D' m' g' u.den → Calls Tryd.prog 62 #[.agg #[.bool sx, .slice B k e, .slice B' k' e'], .agg #[.bool su, .slice D m g, .slice D' m' g']] W' (QRs W' sy y)) := fun W' B k e B' k' e' D m g D' m' g' h1 h2 h3 h4 => by
    rw [hsy, hy]
    exact radd_h (qa_of h1 h2 bx) (qa_of h3 h4 bu) (by decide) (by decide)
  have CC1 : Hid (∀ W' B k e B' k' e', Bel w W' → ZA W' sx B k e x.num → Nm W' B' k' e' x.den → Calls Tryd.prog 61 #[.agg #[.bool sx, .slice B k e, .slice B' k' e'], .agg #[.bool b, .slice A n c, .slice A' n' c']] W' (IntPost W' v1)) := fun W' B k e B' k' e' hb h1 h2 => by
    rw [hv1]
    exact rcmp_h (qa_of h1 h2 bx) (h.up hb) (by decide) (by decide)
  have CC2 : Hid (∀ W' B k e B' k' e', Bel w W' → ZA W' sy B k e y.num → Nm W' B' k' e' y.den → Calls Tryd.prog 61 #[.agg #[.bool b, .slice A n c, .slice A' n' c'], .agg #[.bool sy, .slice B k e, .slice B' k' e']] W' (IntPost W' v2)) := fun W' B k e B' k' e' hb h1 h2 => by
    rw [hv2]
    exact rcmp_h ((QA.up h hb).more (by decide)) (qa_of h1 h2 by') (by decide) (by decide)
  clear h hn hn' hf hx hu hy hsf hsx hsu hsy br bf bx bu by' hv1 hv2
  have HB := Bel.refl w
  go_enter Tryd.func7, Tryd.ntmps7
  go_wp2_with (first | (go_at_call 57; (with_reducible refine (awake3_any _).mono ?_); rintro e w1 ⟨rfl, hbk⟩; have HA := At.up (at_new0 _ _ _) hbk; replace HB := (HB.al _).up hbk; have ha_0 := HA.c0; have ha_1 := HA.c1; have ha_2 := HA.c2; have ha_l := HA.lt) | (go_at_call 58; (with_reducible refine (CL.out _).mono ?_); rintro e w2 ⟨rfl, hbk⟩; replace HB := HB.up hbk; replace HA := HA.up hbk; clear ha_0 ha_1 ha_2 ha_l; have ha_0 := HA.c0; have ha_1 := HA.c1; have ha_2 := HA.c2; have ha_l := HA.lt) | (go_at_call 59; (with_reducible refine (CF.out _ HB).mono ?_); rintro e w3 ⟨Af, cf, rfl, zf, hbk⟩; replace HB := HB.up hbk; replace HA := HA.up hbk; clear ha_0 ha_1 ha_2 ha_l; have hLA := HA.lt) | fail)
  go_region_held3 (fun w' => w'.cell? ⟨w3.heap.size, 0, none⟩ = some (.bool sf) ∧ w'.cell? ⟨w3.heap.size, 1, none⟩ = some (.slice Af (dl f.natAbs) cf))
    (first | with_reducible exact ⟨(at_new0 _ _ _).dr.c0, (at_new0 _ _ _).dr.c1⟩ | with_reducible exact ⟨((at_new0 _ _ _).al _).dr.c0, ((at_new0 _ _ _).al _).dr.c1⟩ | with_reducible exact ⟨HF.c0, HF.c1⟩ | with_reducible exact ⟨(HF.al _).c0, (HF.al _).c1⟩ | exact ⟨(((HF.far (by omega) _).far (by omega) _).far (by omega) _).c0, (((HF.far (by omega) _).far (by omega) _).far (by omega) _).c1⟩)
    (first | (go_at_call 11; (with_reducible refine (C1.out _).mono ?_); rintro e w4 ⟨Ao, co, rfl, no, hbk⟩; (with_reducible (have HF : At w4 w3.heap.size [.bool sf, .slice Af (dl f.natAbs) cf] := At.up (at_new0 _ _ _).dr hbk; replace HB := (HB.al _).dr.up hbk; replace HA := (HA.al _).dr.up hbk; replace zf := (zf.al _).dr.up hbk)); have hLF := HF.lt) | (go_at_call 11; (with_reducible refine (C1.out _).mono ?_); rintro e w4 ⟨Ao, co, rfl, no, hbk⟩; (with_reducible (have HF : At w4 w3.heap.size [.bool sf, .slice Af (dl f.natAbs) cf] := At.up ((at_new0 _ _ _).al _).dr hbk; have HX : At w4 (w3.heap.size + 1) [.bool false, .slice none 0 0, .slice none 0 0] := At.up (at_new1 _ _ _ _).dr hbk; replace HB := ((HB.al _).al _).dr.up hbk; replace HA := ((HA.al _).al _).dr.up hbk; replace zf := ((zf.al _).al _).dr.up hbk)); have hLF := HF.lt) | (go_at_call 60; (with_reducible refine (CO.out _ _ _ _ _ _ _ zf no).mono ?_); rintro e w5 ⟨Ax, cx, Bx, dx, rfl, zx, nx, hbk⟩; (with_reducible (replace HB := HB.up hbk; replace HA := HA.up hbk; replace HF := HF.up hbk)); have hLB := HA.lt; (try replace HX := HX.up hbk); (try have x0 := HX.c0); (try have x1 := HX.c1); (try have x2 := HX.c2); (try have y0 := HX.f0); (try have y1 := HX.f1); (try have y2 := HX.f2); (try have yl := HX.lt)) | (go_at_call 60; (with_reducible refine (CO.out _ _ _ _ _ _ _ (zf.al _) (no.al _)).mono ?_); rintro e w5 ⟨Ax, cx, Bx, dx, rfl, zx, nx, hbk⟩; (with_reducible (have HX : At w5 w4.heap.size [.bool false, .slice none 0 0, .slice none 0 0] := At.up (at_new0 _ _ _) hbk; replace HB := (HB.al _).up hbk; replace HA := (HA.al _).up hbk; replace HF := (HF.al _).up hbk)); have hLB := HA.lt; have x0 := HX.c0; have x1 := HX.c1; have x2 := HX.c2; have y0 := HX.f0; have y1 := HX.f1; have y2 := HX.f2; have yl := HX.lt) | fail)
  all_goals
    go_wp2_with fail
    first | (obtain ⟨W6, hW6⟩ : ∃ W6, W6 = w5.alloc (.cells #[.bool sx, .slice Ax (dl x.num.natAbs) cx, .slice Bx (dl x.den) dx] 82) := ⟨_, rfl⟩; rw [← hW6]; obtain ⟨p, hp⟩ : ∃ p, p = w5.heap.size := ⟨_, rfl⟩; have HX : At W6 p [.bool sx, .slice Ax (dl x.num.natAbs) cx, .slice Bx (dl x.den) dx] := (by rw [hW6, hp]; exact at_new0 _ _ _); replace HA : At W6 w.heap.size [.bool b, .slice A n c, .slice A' n' c'] := (by rw [hW6]; exact HA.al _); replace HB : Bel w W6 := (by rw [hW6]; exact HB.al _); replace zx : ZA W6 sx Ax (dl x.num.natAbs) cx x.num := (by rw [hW6]; exact zx.al _); replace nx : Nm W6 Bx (dl x.den) dx x.den := (by rw [hW6]; exact nx.al _); simp only [← hp]; clear hW6 hp) | (obtain ⟨W6, hW6⟩ : ∃ W6, W6 = ((w5.setCell ⟨w4.heap.size, 0, none⟩ (.bool sx)).setCell ⟨w4.heap.size, 1, none⟩ (.slice Ax (dl x.num.natAbs) cx)).setCell ⟨w4.heap.size, 2, none⟩ (.slice Bx (dl x.den) dx) := ⟨_, rfl⟩; rw [← hW6]; obtain ⟨p, hp⟩ : ∃ p, p = w4.heap.size := ⟨_, rfl⟩; have hX : At W6 p [.bool sx, .slice Ax (dl x.num.natAbs) cx, .slice Bx (dl x.den) dx] := (by rw [hW6, hp]; exact HX.put3 _ _ _); replace HA : At W6 w.heap.size [.bool b, .slice A n c, .slice A' n' c'] := (by rw [hW6]; exact HA.far3 (by omega) _ _ _); replace HB : Bel w W6 := (by rw [hW6]; exact below3 HB (by omega) _ _ _); replace zx : ZA W6 sx Ax (dl x.num.natAbs) cx x.num := (by rw [hW6]; exact zx.put3 HX); replace nx : Nm W6 Bx (dl x.den) dx x.den := (by rw [hW6]; exact nx.put3 HX now3); clear HX; have HX := hX; clear hX; simp only [← hp]; clear hW6 hp x0 x1 x2 y0 y1 y2 yl) | (obtain ⟨W6, hW6⟩ : ∃ W6, W6 = ((w5.setCell ⟨w3.heap.size + 1, 0, none⟩ (.bool sx)).setCell ⟨w3.heap.size + 1, 1, none⟩ (.slice Ax (dl x.num.natAbs) cx)).setCell ⟨w3.heap.size + 1, 2, none⟩ (.slice Bx (dl x.den) dx) := ⟨_, rfl⟩; rw [← hW6]; obtain ⟨p, hp⟩ : ∃ p, p = w3.heap.size + 1 := ⟨_, rfl⟩; have hX : At W6 p [.bool sx, .slice Ax (dl x.num.natAbs) cx, .slice Bx (dl x.den) dx] := (by rw [hW6, hp]; exact HX.put3 _ _ _); replace HA : At W6 w.heap.size [.bool b, .slice A n c, .slice A' n' c'] := (by rw [hW6]; exact HA.far3 (by omega) _ _ _); replace HB : Bel w W6 := (by rw [hW6]; exact below3 HB (by omega) _ _ _); replace zx : ZA W6 sx Ax (dl x.num.natAbs) cx x.num := (by rw [hW6]; exact zx.put3 HX); replace nx : Nm W6 Bx (dl x.den) dx x.den := (by rw [hW6]; exact nx.put3 HX now3); clear HX; have HX := hX; clear hX; simp only [← hp]; clear hW6 hp x0 x1 x2 y0 y1 y2 yl)
    go_region_held3 (fun w' => w'.cell? ⟨p, 0, none⟩ = some (.bool sx) ∧ w'.cell? ⟨p, 1, none⟩ = some (.slice Ax (dl x.num.natAbs) cx) ∧ w'.cell? ⟨p, 2, none⟩ = some (.slice Bx (dl x.den) dx) ∧ w'.cell? ⟨w.heap.size, 0, none⟩ = some (.bool b) ∧ w'.cell? ⟨w.heap.size, 1, none⟩ = some (.slice A n c) ∧ w'.cell? ⟨w.heap.size, 2, none⟩ = some (.slice A' n' c'))
      (first | with_reducible exact ⟨HX.dr.c0, HX.dr.c1, HX.dr.c2, HA.dr.c0, HA.dr.c1, HA.dr.c2⟩ | with_reducible exact ⟨HX.c0, HX.c1, HX.c2, HA.c0, HA.c1, HA.c2⟩)
      (first | (go_at_call 61; (with_reducible refine (CC1.out _ _ _ _ _ _ _ HB.dr zx.dr nx.dr).mono ?_); rintro e w7 ⟨rfl, hbk⟩; (with_reducible (replace HB := HB.dr.up hbk; replace HA := HA.dr.up hbk; replace HX := HX.dr.up hbk; replace zx := zx.dr.up hbk; replace nx := nx.dr.up hbk))) | (go_at_call 63; (with_reducible refine (CI.out _).mono ?_); rintro e w8 ⟨Au, cu, Bu, du, rfl, zu, nu, hbk⟩; (with_reducible (replace HB := HB.up hbk; replace HA := HA.up hbk; replace HX := HX.up hbk; replace zx := zx.up hbk; replace nx := nx.up hbk))) | (go_at_call 62; (with_reducible refine (CA.out _ _ _ _ _ _ _ _ _ _ _ _ _ zx nx zu nu).mono ?_); rintro e w9 ⟨Ay, cy, By, dy, rfl, zy, ny, hbk⟩; (with_reducible (replace HB := HB.up hbk; replace HA := HA.up hbk; replace HX := HX.up hbk; replace zx := zx.up hbk; replace nx := nx.up hbk))) | (go_at_call 61; (with_reducible refine (CC2.out _ _ _ _ _ _ _ HB zy ny).mono ?_); rintro e wa ⟨rfl, hbk⟩; (with_reducible (replace HB := HB.up hbk; replace HA := HA.up hbk; replace HX := HX.up hbk; replace zx := zx.up hbk; replace nx := nx.up hbk))) | fail)
    go_wp2
    go_ret
    exact ⟨rfl, HB⟩
end
end Go.Proofs.YtfknclimoihfdaaDoor
end

section
/- RatFloor over all inputs. No conditions. -/
open Go.RowKit
set_option maxRecDepth 100000
namespace Go.Proofs.YtfknclimoihfdaaDoor
theorem rfloor_walk {b : Bool} {A A' : Option Addr} {n c n' c' : Nat} {z z' : List Nat} (w : World) (h : n = z.length ∧ n ≤ c ∧ Rd U32 w w.heap.size A z ∧ Good32 z) (h' : n' = z'.length ∧ n' ≤ c' ∧ Rd U32 w w.heap.size A' z' ∧ Good32 z') :
    Calls Tryd.prog 7 #[.agg #[.bool b, .slice A n c, .slice A' n' c']] w fun e w' => e = .returned (.bool true) ∧ Below w.heap.size w w' := by
  by_cases hl : n ≤ 12 ∧ n' ≤ 12
  · exact rfloor_main w (qa_in h h' hl) hl.1 hl.2
  · have CL := hide (fun W => rlong_n (W := W) (b := b) (A := A) (A' := A') (c := c) (c' := c') hl)
    clear h h' hl
    have HB := Bel.refl w
    go_enter Tryd.func7, Tryd.ntmps7
    go_wp2_with (first | (go_at_call 57; (with_reducible refine (awake3_any _).mono ?_); rintro e w1 ⟨rfl, hbk⟩; have HA := At.up (at_new0 _ _ _) hbk; replace HB := (HB.al _).up hbk; have a0 := HA.c0; have a1 := HA.c1; have a2 := HA.c2) | (go_at_call 58; (with_reducible refine (CL.out _).mono ?_); rintro e w2 ⟨rfl, hbk⟩; replace HB := HB.up hbk) | fail)
    go_ret
    exact ⟨rfl, HB⟩
end Go.Proofs.YtfknclimoihfdaaDoor
end
