/- Several texts in one, each with its own sentence and conditions. -/
import Derived.Test.YteahcbeohopdlaaDoorGUwc24
import Derived.Test.YteahcbeohopdlaaDoorGUwc29
import Derived.Deep.LoopGhost
import Derived.Deep.CutRange
section
/- Package rat: Inv. -/
open Go.RowKit
set_option maxRecDepth 100000
namespace Go.Proofs.YteahcbeohopdlaaDoor
section
variable {W w : World} {b : Bool} {A A' : Option Addr} {n c n' c' K m m' : Nat} {r : Rat} {z : Int}
theorem tt_inv {s : Bool} {z : Int} {d : Nat} {B : Option Addr} {k e : Nat} (hz : ZA W s B k e z) (h : TT z d r K) (h0 : r ≠ 0) : z ≠ 0 ∧ mkRat (zi s d) z.natAbs = r⁻¹ := by
  obtain ⟨h1, h2, _, _⟩ := h
  have hz0 : z ≠ 0 := by
    intro e
    apply h0
    rw [← h2, e]; simp
  refine ⟨hz0, ?_⟩
  have hs := za_sign hz hz0
  rw [← h2, inv_mk hz0 h1, hs]
  by_cases hn : z < 0
  · rw [if_pos hn, decide_eq_true hn, zi_true]
  · rw [if_neg hn, decide_eq_false hn, zi_false]

set_option maxHeartbeats 2000000 in
theorem inv_yes (h : QA W b A n c A' n' c' r K) (hK : 0 < K) (hK2 : K ≤ 20000) (h0 : r ≠ 0) : Calls Tryd.prog 93 #[.agg #[.bool b, .slice A n c, .slice A' n' c']] W (OfYes W r⁻¹) := by
  obtain ⟨si, hsi⟩ : ∃ s, s = decide ((r⁻¹).num < 0) := ⟨_, rfl⟩
  obtain ⟨v, hv⟩ : ∃ v, v = r⁻¹ := ⟨_, rfl⟩
  rw [← hv] at hsi
  have CT : Hid (∀ W', Bel W W' → Calls Tryd.prog 92 #[.agg #[.bool b, .slice A n c, .slice A' n' c']] W' (TermsR W' r K)) := fun W' hb => terms_h (h.up hb) hK
  have CO : Hid (∀ W' s B k e B' k' e' z d, ZA W' s B k e z → Nm W' B' k' e' d → Hid (TT z d r K) → Calls Tryd.prog 45 #[.agg #[.bool s, .slice B' k' e'], .agg #[.slice B k e]] W' (OfYs2 W' si v)) := fun W' s B k e B' k' e' z d h1 h2 h3 => by
    obtain ⟨e1, e2⟩ := tt_inv h1 h3.out h0
    rw [hsi, hv]
    exact of_yes (za_of h2) h1.1 (by omega) e2 (by rw [zi_abs]; exact dl_bd2 h3.out.2.2.2 (by omega)) (dl_bd2 h3.out.2.2.1 (by omega))
  rw [← hv]
  have HSI := hide hsi
  clear h h0 hsi hv
  have HB := Bel.refl W
  go_enter Tryd.func93, Tryd.ntmps93
  go_wp2_with (first | (go_at_call 92; (with_reducible refine (CT.out _ ((HB.al _).al _)).mono ?_); rintro e w1 ⟨ps, pA, pn, pc, pB, pm, pe, pz, pd, rfl, pzz, pnn, ph, hbk⟩; have HR := At.up (at_new1 _ _ _ _) hbk; replace HB := ((HB.al _).al _).up hbk; replace ph : Hid (TT pz pd r K) := ph) | (go_at_call 45; (with_reducible refine (CO.out _ _ _ _ _ _ _ _ _ _ ((pzz.al _).al _) ((pnn.al _).al _) ph).mono ?_); rintro e w2 ⟨B, e1, B', e2, rfl, nz, nd, hbk⟩; replace HB := ((HB.al _).al _).up hbk; replace HR := ((HR.al _).al _).up hbk; have hr_0 := HR.c0; have hr_1 := HR.c1; have hr_2 := HR.c2; have hr_l := HR.lt; have hr_f0 := HR.f0; have hr_f1 := HR.f1; have hr_f2 := HR.f2) | fail)
  refine bodyPost_ret (v := .tuple #[.agg #[.bool si, .slice B (dl v.num.natAbs) e1, .slice B' (dl v.den) e2], .bool true]) (by simp [results, Tryd.results93, go_sem, hr_0, hr_1, hr_2]) rfl ?_
  exact ⟨B, e1, B', e2, by rw [HSI.out], zr_of (nz.1.put3 HR now3), nd.put3 HR now3, below3 HB (by omega) _ _ _⟩
set_option maxHeartbeats 2000000 in
theorem inv_no (h : QA W b A n c A' n' c' r K) (hK : 0 < K) (h0 : r = 0) : Calls Tryd.prog 93 #[.agg #[.bool b, .slice A n c, .slice A' n' c']] W (OfNo W) := by
  have CT : Hid (∀ W', Bel W W' → Calls Tryd.prog 92 #[.agg #[.bool b, .slice A n c, .slice A' n' c']] W' (TermsR W' r K)) := fun W' hb => terms_h (h.up hb) hK
  have CO : Hid (∀ W' s B k e B' k' e' z d, ZA W' s B k e z → Nm W' B' k' e' d → Hid (TT z d r K) → Calls Tryd.prog 45 #[.agg #[.bool s, .slice B' k' e'], .agg #[.slice B k e]] W' (OfNo W')) := fun W' s B k e B' k' e' z d h1 h2 h3 => by
    have e1 : z = 0 := (Rat.mkRat_eq_zero (by have := h3.out.1; omega)).1 (h3.out.2.1.trans h0)
    subst e1
    exact of_no h1.1
  clear h h0
  have HB := Bel.refl W
  go_enter Tryd.func93, Tryd.ntmps93
  go_wp2_with (first | (go_at_call 92; (with_reducible refine (CT.out _ ((HB.al _).al _)).mono ?_); rintro e w1 ⟨ps, pA, pn, pc, pB, pm, pe, pz, pd, rfl, pzz, pnn, ph, hbk⟩; have HR := At.up (at_new1 _ _ _ _) hbk; replace HB := ((HB.al _).al _).up hbk; replace ph : Hid (TT pz pd r K) := ph) | (go_at_call 45; (with_reducible refine (CO.out _ _ _ _ _ _ _ _ _ _ ((pzz.al _).al _) ((pnn.al _).al _) ph).mono ?_); rintro e w2 ⟨rfl, hbk⟩; replace HB := ((HB.al _).al _).up hbk; replace HR := ((HR.al _).al _).up hbk; have hr_0 := HR.c0; have hr_1 := HR.c1; have hr_2 := HR.c2; have hr_l := HR.lt; have hr_f0 := HR.f0; have hr_f1 := HR.f1; have hr_f2 := HR.f2) | fail)
  refine bodyPost_ret (v := .tuple #[.agg #[.bool false, .slice none 0 0, .slice none 0 0], .bool false]) (by simp [results, Tryd.results93, go_sem, hr_0, hr_1, hr_2]) rfl ?_
  exact ⟨rfl, below3 HB (by omega) _ _ _⟩
end
end Go.Proofs.YteahcbeohopdlaaDoor
end

section
/- RoundNear's walk. No conditions. -/
open Go.RowKit
set_option maxRecDepth 100000
namespace Go.Proofs.YteahcbeohopdlaaDoor
section
variable {W w : World} {b : Bool} {A A' : Option Addr} {n c n' c' s : Nat} {m : Int} {r : Rat}
theorem long5_h (h1 : n ≤ 12) (h2 : n' ≤ 12) : Calls Tryd.prog 43 #[.agg #[.bool b, .slice A n c, .slice A' n' c']] W (BoolR W false) := by
  have g1 : decide ((12 : Int) < (n : Int)) = false := decide_eq_false (by omega)
  have g2 : decide ((12 : Int) < (n' : Int)) = false := decide_eq_false (by omega)
  have g3 : ¬ (12 : Int) < (n : Int) := by omega
  have g4 : ¬ (12 : Int) < (n' : Int) := by omega
  have HB := Bel.refl W
  go_enter Tryd.func43, Tryd.ntmps43
  go_wp2
  go_ret
  exact ⟨rfl, HB.al _⟩
theorem long5_n (h : ¬ (n ≤ 12 ∧ n' ≤ 12)) : Calls Tryd.prog 43 #[.agg #[.bool b, .slice A n c, .slice A' n' c']] W (BoolR W true) := by
  have HB := Bel.refl W
  by_cases h1 : n ≤ 12
  · have g1 : decide ((12 : Int) < (n : Int)) = false := decide_eq_false (by omega)
    have g2 : decide ((12 : Int) < (n' : Int)) = true := decide_eq_true (by omega)
    have g3 : ¬ (12 : Int) < (n : Int) := by omega
    have g4 : (12 : Int) < (n' : Int) := by omega
    clear h
    go_enter Tryd.func43, Tryd.ntmps43
    go_wp2
    go_ret
    exact ⟨rfl, HB.al _⟩
  · have g1 : decide ((12 : Int) < (n : Int)) = true := decide_eq_true (by omega)
    have g3 : (12 : Int) < (n : Int) := by omega
    clear h
    go_enter Tryd.func43, Tryd.ntmps43
    go_wp2
    go_ret
    exact ⟨rfl, HB.al _⟩
end
end Go.Proofs.YteahcbeohopdlaaDoor
end

section
/- Package round: Int; RoundModes in numbers. Conditions: terms of at most 20000 words. -/
open Go.RowKit
set_option maxRecDepth 100000
namespace Go.Proofs.YteahcbeohopdlaaDoor
/-- What Int leaves: an integer and no error. -/
def IntR (W : World) (sg : Bool) (z : Int) (e : Ending) (w' : World) : Prop := ∃ A c, e = .returned (.tuple #[.agg #[.bool sg, .slice A (dl z.natAbs) c], .int .i64 0]) ∧ ZA w' sg A (dl z.natAbs) c z ∧ Hid (Below W.heap.size W w')
section
variable {W : World} {b : Bool} {A A' : Option Addr} {n n' c c' K : Nat} {m : Int} {r : Rat}
set_option maxHeartbeats 8000000 in
theorem rint_h (h : QA W b A n c A' n' c' r K) (hm : 1 ≤ m ∧ m ≤ 7) (hK : K ≤ 20000) {t : Int} (ht : rdR m r = t) : Calls Tryd.prog 41 #[.agg #[.bool b, .slice A n c, .slice A' n' c'], .int .i64 m] W (IntR W (decide (t < 0)) t) := by
  obtain ⟨z, d, hz, hd, hr⟩ := h
  obtain ⟨st, hst⟩ : ∃ u, u = decide (t < 0) := ⟨_, rfl⟩
  have CM : Hid (∀ W', Calls Tryd.prog 83 #[.int .i64 m] W' (RetB W' true)) := fun W' => by
    have h1 := mode_h (W := W') (m := m)
    rwa [decide_eq_true hm] at h1
  have CW : Hid (∀ W', Bel W W' → Calls Tryd.prog 90 #[.agg #[.bool b, .slice A n c], .agg #[.slice A' n' c'], .int .i64 m] W' (ZRu W' st t)) := fun W' hw => by
    have h1 := whole_r (hz.up hw.hid) (hd.up hw.hid) hm hr.out.2.1 hr.out.2.2 hK
    rw [rdZ_mk, hr.out.1, ht] at h1
    rw [hst]
    exact h1
  rw [← hst]
  clear hz hd hr hm hK ht hst
  have HB := Bel.refl W
  go_enter Tryd.func41, Tryd.ntmps41
  go_wp2_with (first | (go_at_call 83; (with_reducible refine (CM.out _).mono ?_); rintro e w1 ⟨rfl, hbk⟩; replace hbk := Bel.hid hbk; (with_reducible (have H0 : At w1 W.heap.size [.bool b, .slice A n c, .slice A' n' c'] := At.up ((at_new0 _ _ _).al _) hbk; have HR : At w1 (W.heap.size + 1) [.bool false, .slice none 0 0] := At.up (at_new1 _ _ _ _) hbk; replace HB := ((HB.al _).al _).up hbk)); have h0_0 := H0.c0; have h0_1 := H0.c1; have h0_2 := H0.c2; have h0_l := H0.lt) | (go_at_call 90; (with_reducible refine (CW.out _ HB).mono ?_); rintro e w2 ⟨B, e, rfl, zt, hbk⟩; (with_reducible (replace HB := HB.up hbk; replace HR := HR.up hbk)); clear h0_0 h0_1 h0_2 h0_l; have hr_0 := HR.c0; have hr_1 := HR.c1; have hr_l := HR.lt; have hr_f0 := HR.f0; have hr_f1 := HR.f1) | fail)
  refine bodyPost_ret (v := .tuple #[.agg #[.bool st, .slice B (dl t.natAbs) e], .int .i64 0]) (by simp [results, Tryd.results41, go_sem, hr_0, hr_1]) rfl ?_
  have z1 := zt.1
  exact ⟨B, e, rfl, zt.mv ((z1.put (i := 0) HR (by simp) now2 _).put (HR.put (i := 0) (by simp) (.bool st)) (i := 1) (by simp) now2 _), (HB.put2 (by omega) _ _).hid⟩
end
/-- Which integers the modes take: the one below, or the one above. -/
structure Modes (r : Rat) : Prop where
  fl : rdR 3 r = r.floor
  lo : cmpR ((rdR 3 r : Int) : Rat) r ≤ 0
  hi : cmpR r ((rdR 4 r : Int) : Rat) ≤ 0
  pos : 0 ≤ r.num → rdR 1 r = rdR 3 r ∧ rdR 2 r = rdR 4 r
  neg : r.num < 0 → rdR 1 r = rdR 4 r ∧ rdR 2 r = rdR 3 r
  half : ∀ m, rdR m r = rdR 3 r ∨ rdR m r = rdR 4 r
theorem modes_of (r : Rat) : Modes r := by
  have hd := r.den_pos
  have hq : (0 : Int) < (r.den : Int) := by omega
  have h1 := Int.emod_add_mul_ediv r.num (r.den : Int)
  have h2 := Int.emod_nonneg r.num (by omega : (r.den : Int) ≠ 0)
  have h3 := Int.emod_lt_of_pos r.num hq
  have n3 := rd_near (m := 3) (p := r.num) hd
  have n4 := rd_near (m := 4) (p := r.num) hd
  have hfl : r.floor = r.num / (r.den : Int) := Rat.floor_def r
  obtain ⟨f, hf⟩ : ∃ f, f = r.num / (r.den : Int) := ⟨_, rfl⟩
  obtain ⟨e, he⟩ : ∃ e, e = r.num % (r.den : Int) := ⟨_, rfl⟩
  rw [← hf, ← he] at h1
  rw [← he] at h2 h3
  have key : ∀ m, rdR m r = if e = 0 then f else if rdUp m f e.natAbs r.den = true then f + 1 else f := fun m => by
    unfold rdR rdZ
    rw [if_neg (by omega), ← hf, ← he]
  have k3 : rdR 3 r = f := by
    rw [key]
    split
    · rfl
    · rw [if_neg (by unfold rdUp lnUp; simp)]
  have k4 : rdR 4 r = if e = 0 then f else f + 1 := by
    rw [key]
    split
    · rfl
    · rw [if_pos (by unfold rdUp lnUp; simp)]
  have sgn : 0 ≤ r.num ↔ 0 ≤ f := by
    constructor
    · intro h; rw [hf]; exact Int.ediv_nonneg h (by omega)
    · intro h
      have := Int.mul_nonneg (Int.le_of_lt hq) h
      omega
  have cmpI_r : ∀ t : Int, cmpR (t : Rat) r = (if t * (r.den : Int) < r.num then -1 else if r.num < t * (r.den : Int) then 1 else 0) := fun t => by
    have h5 := cmp_mk (z := t) (z' := r.num) (d := 1) (d' := r.den) (by decide) hd
    rw [Rat.mkRat_self, Rat.mkRat_one] at h5
    rw [h5]; simp
  have cmpI_l : ∀ t : Int, cmpR r (t : Rat) = (if r.num < t * (r.den : Int) then -1 else if t * (r.den : Int) < r.num then 1 else 0) := fun t => by
    have h5 := cmp_mk (z := r.num) (z' := t) (d := r.den) (d' := 1) hd (by decide)
    rw [Rat.mkRat_self, Rat.mkRat_one] at h5
    rw [h5]; simp
  have hfc : f * (r.den : Int) = (r.den : Int) * f := Int.mul_comm _ _
  refine ⟨by rw [k3, hfl, hf], ?_, ?_, ?_, ?_, ?_⟩
  · rw [cmpI_r, k3]
    split
    · decide
    · rw [if_neg (by omega)]; decide
  · rw [cmpI_l, k4]
    by_cases h0 : e = 0
    · rw [if_pos h0]
      split
      · decide
      · rw [if_neg (by omega)]; decide
    · rw [if_neg h0, Int.add_mul, Int.one_mul]
      rw [if_pos (by omega)]; decide
  · intro h
    have hf0 := sgn.1 h
    refine ⟨?_, ?_⟩
    · rw [k3, key]
      split
      · rfl
      · rw [if_neg (by unfold rdUp lnUp; simp; omega)]
    · rw [k4, key]
      split
      · rfl
      · rw [if_pos (by unfold rdUp lnUp; simp; omega)]
  · intro h
    have hf0 : f < 0 := by
      have := sgn.2
      omega
    refine ⟨?_, ?_⟩
    · rw [k4, key]
      split
      · rfl
      · rw [if_pos (by unfold rdUp lnUp; simp; omega)]
    · rw [k3, key]
      split
      · rfl
      · rw [if_neg (by unfold rdUp lnUp; simp; omega)]
  · intro m
    rw [k3, k4, key]
    by_cases h0 : e = 0
    · rw [if_pos h0]; exact .inl rfl
    · rw [if_neg h0, if_neg h0]
      split
      · exact .inr rfl
      · exact .inl rfl
end Go.Proofs.YteahcbeohopdlaaDoor
end

section
/- RoundModes' walk. No conditions. -/
open Go.RowKit
set_option maxRecDepth 100000
namespace Go.Proofs.YteahcbeohopdlaaDoor
section
variable {W w : World} {b : Bool} {A A' : Option Addr} {n c n' c' : Nat} {r : Rat}
theorem At.ci {p i : Nat} {vs : List Value} {v : Value} (h : At W p vs) (hi : vs[i]? = some v) : W.cell? ⟨p, i, none⟩ = some v := (h.all i v hi).1
theorem At.fi {p i : Nat} {vs : List Value} {v : Value} (h : At W p vs) (hi : vs[i]? = some v) : W.frozen? ⟨p, i, none⟩ = false := (h.all i v hi).2
theorem za_put2 {p i : Nat} {vs : List Value} {s b0 : Bool} {B : Option Addr} {k e : Nat} {z : Int} {a : Option Addr} {l q : Nat} (h : ZA W s B k e z) (hp : At W p vs) (h0 : vs[i]? = some (.bool b0)) (h1 : vs[i + 1]? = some (.slice a l q)) (x y : Value) : ZA ((W.setCell ⟨p, i, none⟩ x).setCell ⟨p, i + 1, none⟩ y) s B k e z := by
  have g0 := h.1
  have hl : i < vs.length := (List.getElem?_eq_some_iff.1 h0).1
  have h2 : At (W.setCell ⟨p, i, none⟩ x) p (vs.set i x) := hp.put hl x
  have h3 : (vs.set i x)[i + 1]? = some (.slice a l q) := by rw [List.getElem?_set_ne (by omega)]; exact h1
  exact h.mv (Nm.putx (Nm.putx g0 ⟨.bool b0, hp.ci h0, fun x h => by cases h⟩ x) ⟨.slice a l q, h2.ci h3, not_u32⟩ y)
def enB (sg : Nat → Bool) (k j : Nat) : Value := if 1 ≤ j ∧ j < k then .bool (sg j) else .bool false
def enS (v : Nat → Int) (B : Nat → Option Addr) (E : Nat → Nat) (k j : Nat) : Value := if 1 ≤ j ∧ j < k then .slice (B j) (dl (v j).natAbs) (E j) else .slice none 0 0
def arr (sg : Nat → Bool) (v : Nat → Int) (B : Nat → Option Addr) (E : Nat → Nat) (k : Nat) : List Value :=
  [enB sg k 0, enS v B E k 0, enB sg k 1, enS v B E k 1, enB sg k 2, enS v B E k 2, enB sg k 3, enS v B E k 3, enB sg k 4, enS v B E k 4, enB sg k 5, enS v B E k 5, enB sg k 6, enS v B E k 6, enB sg k 7, enS v B E k 7]
set_option maxHeartbeats 4000000 in
theorem modes_x0 (w : World) (h : ¬ (n ≤ 12 ∧ n' ≤ 12)) : Calls Tryd.prog 5 #[.agg #[.bool b, .slice A n c, .slice A' n' c']] w fun e w' => e = .returned (.bool true) ∧ Below w.heap.size w w' := by
  have CL : Hid (∀ W, Calls Tryd.prog 43 #[.agg #[.bool b, .slice A n c, .slice A' n' c']] W (BoolR W true)) := fun W => long5_n h
  clear h
  have HB := Bel.refl w
  go_enter Tryd.func5, Tryd.ntmps5
  go_wp2_with (first | (go_at_call 34; (with_reducible refine (awake5_any _).mono ?_); rintro e w1 ⟨rfl, hbk⟩; (with_reducible (have HA : At w1 w.heap.size [.bool b, .slice A n c, .slice A' n' c'] := At.up (at_new0 _ _ _) hbk; replace HB := (HB.al _).up hbk)); have ha_0 := HA.c0; have ha_1 := HA.c1; have ha_2 := HA.c2; have ha_l := HA.lt) | (go_at_call 43; (with_reducible refine (CL.out _).mono ?_); rintro e w2 ⟨rfl, hbk⟩; (with_reducible (replace HB := HB.up hbk; replace HA := HA.up hbk)); clear ha_0 ha_1 ha_2 ha_l; have ha_0 := HA.c0; have ha_1 := HA.c1; have ha_2 := HA.c2; have ha_l := HA.lt) | fail)
  go_ret
  exact ⟨rfl, HB⟩
set_option maxHeartbeats 4000000 in
theorem modes_x1 (w : World) (h : n ≤ 12 ∧ n' ≤ 12) (hg : ∀ W, Bel w W → Calls Tryd.prog 44 #[.agg #[.bool b, .slice A n c, .slice A' n' c']] W (RetB W false)) : Calls Tryd.prog 5 #[.agg #[.bool b, .slice A n c, .slice A' n' c']] w fun e w' => e = .returned (.bool true) ∧ Below w.heap.size w w' := by
  have CL : Hid (∀ W, Calls Tryd.prog 43 #[.agg #[.bool b, .slice A n c, .slice A' n' c']] W (BoolR W false)) := fun W => long5_h h.1 h.2
  have CG := hide hg
  clear h hg
  have HB := Bel.refl w
  go_enter Tryd.func5, Tryd.ntmps5
  go_wp2_with (first | (go_at_call 34; (with_reducible refine (awake5_any _).mono ?_); rintro e w1 ⟨rfl, hbk⟩; (with_reducible (have HA : At w1 w.heap.size [.bool b, .slice A n c, .slice A' n' c'] := At.up (at_new0 _ _ _) hbk; replace HB := (HB.al _).up hbk)); have ha_0 := HA.c0; have ha_1 := HA.c1; have ha_2 := HA.c2; have ha_l := HA.lt) | (go_at_call 43; (with_reducible refine (CL.out _).mono ?_); rintro e w2 ⟨rfl, hbk⟩; (with_reducible (replace HB := HB.up hbk; replace HA := HA.up hbk)); clear ha_0 ha_1 ha_2 ha_l; have ha_0 := HA.c0; have ha_1 := HA.c1; have ha_2 := HA.c2; have ha_l := HA.lt) | (go_at_call 44; (with_reducible refine (CG.out _ HB).mono ?_); rintro e w3 ⟨rfl, hbk⟩; replace hbk := Bel.hid hbk; (with_reducible (replace HB := HB.up hbk; replace HA := HA.up hbk)); clear ha_0 ha_1 ha_2 ha_l; have ha_0 := HA.c0; have ha_1 := HA.c1; have ha_2 := HA.c2; have ha_l := HA.lt) | fail)
  go_ret
  exact ⟨rfl, HB⟩
end
end Go.Proofs.YteahcbeohopdlaaDoor
end
