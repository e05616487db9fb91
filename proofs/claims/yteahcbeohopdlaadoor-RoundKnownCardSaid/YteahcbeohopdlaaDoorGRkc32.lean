/- Several texts in one, each with its own sentence and conditions. -/
import Derived.Test.YteahcbeohopdlaaDoorGRkc29
import Derived.Deep.LoopGhost
import Derived.Deep.CutRange
section
/- RoundNear in numbers. No conditions. -/
open Go.RowKit
set_option maxRecDepth 100000
namespace Go.Proofs.YteahcbeohopdlaaDoor
theorem cmpR_lt {a b : Rat} (h : a < b) : cmpR a b = -1 := by unfold cmpR; rw [if_pos h]
theorem cmpR_self (a : Rat) : cmpR a a = 0 := by unfold cmpR; rw [if_neg Rat.lt_irrefl, if_neg Rat.lt_irrefl]
theorem cmpR_le {a b : Rat} (h : ¬ b < a) : cmpR a b ≤ 0 := by
  unfold cmpR
  split
  · decide
  · simp [h]
theorem zi_sign (t : Int) : zi (decide (t < 0)) t.natAbs = t := (zi_dec t).symm
theorem rd_abs {m p : Int} {q : Nat} : (rdZ m p q).natAbs ≤ p.natAbs + 1 := by
  have h1 := nabs_div_le p q
  unfold rdZ
  split
  · simp
  · split
    · omega
    · split <;> omega
/-- What stands off: a over the denominator and the power of ten, a less than the denominator. -/
theorem off_mk {r : Rat} {P : Nat} {t : Int} (hP : 0 < P) : mkRat t P + -r = mkRat (t * ((r * mkRat (P : Int) 1).den : Int) - (r * mkRat (P : Int) 1).num) (P * (r * mkRat (P : Int) 1).den) := by
  obtain ⟨X, hX⟩ : ∃ X, X = r * mkRat (P : Int) 1 := ⟨_, rfl⟩
  rw [← hX]
  have hP' : (P : Int) ≠ 0 := by omega
  have hr : r = mkRat X.num (X.den * P) := by
    have h1 : mkRat (P : Int) 1 * mkRat 1 P = 1 := by
      rw [mul_mk, Int.mul_one, Nat.one_mul]
      have := Rat.mkRat_mul_right (n := 1) (d := 1) (a := P) (by omega)
      rw [Int.one_mul, Nat.one_mul] at this
      rw [this]; rfl
    calc r = r * (mkRat (P : Int) 1 * mkRat 1 P) := by rw [h1, Rat.mul_one]
      _ = X * mkRat 1 P := by rw [← Rat.mul_assoc, ← hX]
      _ = mkRat X.num X.den * mkRat 1 P := by rw [Rat.mkRat_self]
      _ = mkRat X.num (X.den * P) := by rw [mul_mk, Int.mul_one]
  have hd : 0 < X.den := X.den_pos
  conv => lhs; rw [hr, neg_mk, add_mk hP (Nat.mul_pos hd hP)]
  have e1 : t * ((X.den * P : Nat) : Int) + -X.num * (P : Int) = (t * (X.den : Int) - X.num) * (P : Int) := by
    rw [Int.natCast_mul, Int.sub_mul, Int.neg_mul, Int.mul_assoc]; rfl
  have e2 : P * (X.den * P) = P * X.den * P := by rw [Nat.mul_assoc]
  rw [e1, e2]
  exact Rat.mkRat_mul_right (by omega)
structure Near (r rD un off ab : Rat) (t m : Int) (P : Nat) : Prop where
  lt : cmpR ab un = -1
  half : 5 ≤ m → cmpR (ab + ab) un ≤ 0
  again : rdR m (rD * mkRat (P : Int) 1) = t
theorem near_of {r rD un off ab : Rat} {t m : Int} {P : Nat} (hP : 0 < P) (ht : rdR m (r * mkRat (P : Int) 1) = t) (hD : mkRat t P = rD) (hu : mkRat 1 P = un) (ho : rD + -r = off) (ha : ab = if off.num < 0 then -off else off) : Near r rD un off ab t m P := by
  have h1 := off_mk (r := r) (t := t) hP
  rw [hD, ho] at h1
  obtain ⟨X, hX⟩ : ∃ X, X = r * mkRat (P : Int) 1 := ⟨_, rfl⟩
  rw [← hX] at h1 ht
  have hd : 0 < X.den := X.den_pos
  obtain ⟨n1, n2, n3⟩ := rd_near (m := m) (p := X.num) hd
  unfold rdR at ht
  rw [ht] at n1 n2 n3
  obtain ⟨a, hA⟩ : ∃ a, a = t * (X.den : Int) - X.num := ⟨_, rfl⟩
  rw [← hA] at h1 n1 n2 n3
  have hQ : 0 < P * X.den := Nat.mul_pos hP hd
  have hsg : off.num < 0 ↔ a < 0 := by
    have h2 := sign_mk (z := a) hQ
    rw [← h1] at h2
    rw [← Int.sign_neg_iff, h2, Int.sign_neg_iff]
  have hab : ab = mkRat (a.natAbs : Int) (P * X.den) := by
    rw [ha]
    by_cases h3 : a < 0
    · rw [if_pos (hsg.2 h3), h1, neg_mk, show -a = (a.natAbs : Int) by omega]
    · rw [if_neg (fun h => h3 (hsg.1 h)), h1, show a = (a.natAbs : Int) by omega]; simp
  have hPi : (0 : Int) < (P : Int) := by omega
  refine ⟨?_, fun h5 => ?_, ?_⟩
  · refine cmpR_lt ?_
    rw [hab, ← hu, mk_lt hQ hP, Int.one_mul, Int.natCast_mul, Int.mul_comm (P : Int)]
    exact Int.mul_lt_mul_of_pos_right (by omega) hPi
  · refine cmpR_le ?_
    have h6 := n3 h5
    rw [hab, ← hu, add_mk hQ hQ, mk_lt hP (Nat.mul_pos hQ hQ)]
    have e1 : ((a.natAbs : Int) * ((P * X.den : Nat) : Int) + (a.natAbs : Int) * ((P * X.den : Nat) : Int)) = ((a.natAbs : Int) + (a.natAbs : Int)) * ((P * X.den : Nat) : Int) := by rw [Int.add_mul]
    have e2 : ((P * X.den * (P * X.den) : Nat) : Int) = (X.den : Int) * (P : Int) * ((P * X.den : Nat) : Int) := by rw [Int.natCast_mul, Int.natCast_mul, Int.mul_comm (P : Int)]
    rw [e1, e2, Int.one_mul, Int.mul_assoc, Int.mul_assoc, Int.mul_comm ((P * X.den : Nat) : Int), ← Int.mul_assoc, ← Int.mul_assoc]
    refine Int.not_lt.2 (Int.mul_le_mul_of_nonneg_right (Int.mul_le_mul_of_nonneg_right (by omega) (by omega)) (by omega))
  · rw [← hD]
    have e : mkRat t P * mkRat (P : Int) 1 = (t : Rat) := by
      rw [mul_mk, Nat.mul_one]
      have := Rat.mkRat_mul_right (n := t) (d := 1) (a := P) (by omega)
      rw [Nat.one_mul] at this
      rw [this, Rat.mkRat_one]
    rw [e, rdR_int]
end Go.Proofs.YteahcbeohopdlaaDoor
end

section
/- RoundOrder in numbers: rounding keeps the order, and turns with the sign. No conditions. -/
open Go.RowKit
set_option maxRecDepth 100000
namespace Go.Proofs.YteahcbeohopdlaaDoor
theorem rdUp_mono {m f : Int} {r r' q : Nat} (h : r ≤ r') (hu : rdUp m f r q = true) : rdUp m f r' q = true := by
  unfold rdUp at *
  by_cases h4 : m ≤ 4
  · rw [if_pos h4] at *; exact hu
  · rw [if_neg h4] at *
    by_cases h1 : r + r < q
    · rw [if_pos h1] at hu; cases hu
    · rw [if_neg h1] at hu
      rw [if_neg (by omega)]
      by_cases h2 : q < r' + r'
      · rw [if_pos h2]
      · rw [if_neg h2]
        rw [if_neg (by omega)] at hu
        exact hu
theorem rdZ_mono {m p p' : Int} {q : Nat} (h : p ≤ p') : rdZ m p q ≤ rdZ m p' q := by
  by_cases hq : q = 0
  · unfold rdZ; rw [if_pos hq, if_pos hq]; exact Int.le_refl _
  have hq0 : (0 : Int) < (q : Int) := by omega
  have h1 := Int.emod_add_mul_ediv p (q : Int)
  have h2 := Int.emod_nonneg p (by omega : (q : Int) ≠ 0)
  have h3 := Int.emod_lt_of_pos p hq0
  have h1' := Int.emod_add_mul_ediv p' (q : Int)
  have h2' := Int.emod_nonneg p' (by omega : (q : Int) ≠ 0)
  have h3' := Int.emod_lt_of_pos p' hq0
  have hfg : p / (q : Int) ≤ p' / (q : Int) := Int.ediv_le_ediv hq0 h
  obtain ⟨f, hf⟩ : ∃ f, f = p / (q : Int) := ⟨_, rfl⟩
  obtain ⟨g, hg⟩ : ∃ g, g = p' / (q : Int) := ⟨_, rfl⟩
  obtain ⟨r, hr⟩ : ∃ r, r = p % (q : Int) := ⟨_, rfl⟩
  obtain ⟨r', hr'⟩ : ∃ r, r = p' % (q : Int) := ⟨_, rfl⟩
  unfold rdZ
  rw [if_neg hq, if_neg hq, ← hf, ← hg, ← hr, ← hr']
  rw [← hf, ← hr] at h1
  rw [← hg, ← hr'] at h1'
  rw [← hr] at h2 h3
  rw [← hr'] at h2' h3'
  rw [← hf, ← hg] at hfg
  rcases Int.lt_or_eq_of_le hfg with hlt | heq
  · split <;> split <;> (try split) <;> (try split) <;> omega
  · subst heq
    have hrr : r ≤ r' := by omega
    by_cases h0 : r = 0
    · rw [if_pos h0]
      split
      · omega
      · split <;> omega
    · rw [if_neg h0, if_neg (show ¬ r' = 0 by omega)]
      by_cases hu : rdUp m f r.natAbs q = true
      · rw [if_pos hu, if_pos (rdUp_mono (by omega) hu)]; exact Int.le_refl _
      · rw [if_neg hu]; split <;> omega
theorem rdR_mono {m : Int} {X Y : Rat} (h : X ≤ Y) : rdR m X ≤ rdR m Y := by
  have hx := X.den_pos
  have hy := Y.den_pos
  have e1 : X = mkRat (X.num * (Y.den : Int)) (X.den * Y.den) := by
    rw [Rat.mkRat_mul_right (by omega)]; exact (Rat.mkRat_self X).symm
  have e2 : Y = mkRat (Y.num * (X.den : Int)) (X.den * Y.den) := by
    rw [Nat.mul_comm X.den, Rat.mkRat_mul_right (by omega)]; exact (Rat.mkRat_self Y).symm
  have h1 : X.num * (Y.den : Int) ≤ Y.num * (X.den : Int) := (Rat.le_iff X Y).1 h
  have k1 : rdR m X = rdZ m (X.num * (Y.den : Int)) (X.den * Y.den) := by rw [rdZ_mk, ← e1]
  have k2 : rdR m Y = rdZ m (Y.num * (X.den : Int)) (X.den * Y.den) := by rw [rdZ_mk, ← e2]
  rw [k1, k2]
  exact rdZ_mono h1
/-- The mode that is turned about with the sign. -/
def turn (m : Int) : Int := if m = 3 then 4 else if m = 4 then 3 else m
theorem lnUp_turn {m f : Int} (hm : 1 ≤ m ∧ m ≤ 7) : lnUp (turn m) (-f - 1) = !lnUp m f := by
  have hmm : m = 1 ∨ m = 2 ∨ m = 3 ∨ m = 4 ∨ m = 5 ∨ m = 6 ∨ m = 7 := by omega
  have a1 : decide (-f - 1 < 0) = !decide (f < 0) := by
    by_cases h : f < 0
    · rw [decide_eq_true h, decide_eq_false (by omega)]; rfl
    · rw [decide_eq_false h, decide_eq_true (by omega)]; rfl
  have a2 : decide ((-f - 1) % 2 ≠ 0) = !decide (f % 2 ≠ 0) := by
    by_cases h : f % 2 ≠ 0
    · rw [decide_eq_true h, decide_eq_false (by omega)]; rfl
    · rw [decide_eq_false h, decide_eq_true (by omega)]; rfl
  rcases hmm with rfl | rfl | rfl | rfl | rfl | rfl | rfl
  · show decide (-f - 1 < 0) = !decide (f < 0); exact a1
  · show (!decide (-f - 1 < 0)) = !!decide (f < 0); rw [a1]
  · rfl
  · rfl
  · show decide (-f - 1 < 0) = !decide (f < 0); exact a1
  · show (!decide (-f - 1 < 0)) = !!decide (f < 0); rw [a1]
  · show decide ((-f - 1) % 2 ≠ 0) = !decide (f % 2 ≠ 0); exact a2
theorem turn_le {m : Int} (hm : 1 ≤ m ∧ m ≤ 7) : (turn m ≤ 4 ↔ m ≤ 4) ∧ 1 ≤ turn m ∧ turn m ≤ 7 := by
  unfold turn
  split
  · omega
  · split <;> omega
theorem rdZ_neg {m p : Int} {q : Nat} (hm : 1 ≤ m ∧ m ≤ 7) : rdZ (turn m) (-p) q = -rdZ m p q := by
  by_cases hq : q = 0
  · unfold rdZ; rw [if_pos hq, if_pos hq]; rfl
  have hq0 : (0 : Int) < (q : Int) := by omega
  have h1 := Int.emod_add_mul_ediv p (q : Int)
  have h2 := Int.emod_nonneg p (by omega : (q : Int) ≠ 0)
  have h3 := Int.emod_lt_of_pos p hq0
  obtain ⟨f, hf⟩ : ∃ f, f = p / (q : Int) := ⟨_, rfl⟩
  obtain ⟨r, hr⟩ : ∃ r, r = p % (q : Int) := ⟨_, rfl⟩
  rw [← hf, ← hr] at h1
  rw [← hr] at h2 h3
  by_cases h0 : r = 0
  · have u := unique_pos (a := -p) (q := -f) (r := 0) (k := q) (by omega) (by rw [Int.mul_neg]; omega) (by omega) (by omega)
    unfold rdZ
    rw [if_neg hq, if_neg hq, u.1, u.2, ← hf, ← hr, if_pos rfl, if_pos h0]
  · have u := unique_pos (a := -p) (q := -f - 1) (r := (q : Int) - r) (k := q) (by omega) (by rw [Int.mul_sub, Int.mul_neg]; omega) (by omega) (by omega)
    unfold rdZ
    rw [if_neg hq, if_neg hq, u.1, u.2, ← hf, ← hr, if_neg (by omega), if_neg h0]
    have hup : rdUp (turn m) (-f - 1) ((q : Int) - r).natAbs q = !rdUp m f r.natAbs q := by
      unfold rdUp
      by_cases h4 : m ≤ 4
      · rw [if_pos ((turn_le hm).1.2 h4), if_pos h4]; exact lnUp_turn hm
      · rw [if_neg (fun h => h4 ((turn_le hm).1.1 h)), if_neg h4]
        by_cases c1 : r.natAbs + r.natAbs < q
        · rw [if_neg (by omega), if_pos (by omega), if_pos c1]; rfl
        · by_cases c2 : q < r.natAbs + r.natAbs
          · rw [if_pos (by omega), if_neg c1, if_pos c2]; rfl
          · rw [if_neg (by omega), if_neg (by omega), if_neg c1, if_neg c2]; exact lnUp_turn hm
    rw [hup]
    cases rdUp m f r.natAbs q
    · rw [if_pos (by rfl), if_neg (by decide)]; omega
    · rw [if_neg (by decide), if_pos rfl]; omega
theorem rdR_neg {m : Int} {X : Rat} (hm : 1 ≤ m ∧ m ≤ 7) : rdR (turn m) (-X) = -rdR m X := by
  unfold rdR
  rw [Rat.neg_num, Rat.neg_den]
  exact rdZ_neg hm
end Go.Proofs.YteahcbeohopdlaaDoor
end

section
/- RoundNear's walk. No conditions. -/
open Go.RowKit
set_option maxRecDepth 100000
namespace Go.Proofs.YteahcbeohopdlaaDoor
section
variable {W w : World} {b : Bool} {A A' : Option Addr} {n c n' c' s : Nat} {m : Int} {r : Rat}
theorem long5_h (h1 : n ≤ 12) (h2 : n' ≤ 12) : Calls Tryd.prog 43 #[.agg #[.bool b, .slice A n c, .slice A' n' c']] W (BoolR W false) := by
  have g1 : decide ((12 : Int) < (n : Int)) = false := decide_eq_false (by omega)
  have g2 : decide ((12 : Int) < (n' : Int)) = false := decide_eq_false (by omega)
  have g3 : ¬ (12 : Int) < (n : Int) := by omega
  have g4 : ¬ (12 : Int) < (n' : Int) := by omega
  have HB := Bel.refl W
  go_enter Tryd.func43, Tryd.ntmps43
  go_wp2
  go_ret
  exact ⟨rfl, HB.al _⟩
theorem long5_n (h : ¬ (n ≤ 12 ∧ n' ≤ 12)) : Calls Tryd.prog 43 #[.agg #[.bool b, .slice A n c, .slice A' n' c']] W (BoolR W true) := by
  have HB := Bel.refl W
  by_cases h1 : n ≤ 12
  · have g1 : decide ((12 : Int) < (n : Int)) = false := decide_eq_false (by omega)
    have g2 : decide ((12 : Int) < (n' : Int)) = true := decide_eq_true (by omega)
    have g3 : ¬ (12 : Int) < (n : Int) := by omega
    have g4 : (12 : Int) < (n' : Int) := by omega
    clear h
    go_enter Tryd.func43, Tryd.ntmps43
    go_wp2
    go_ret
    exact ⟨rfl, HB.al _⟩
  · have g1 : decide ((12 : Int) < (n : Int)) = true := decide_eq_true (by omega)
    have g3 : (12 : Int) < (n : Int) := by omega
    clear h
    go_enter Tryd.func43, Tryd.ntmps43
    go_wp2
    go_ret
    exact ⟨rfl, HB.al _⟩
end
end Go.Proofs.YteahcbeohopdlaaDoor
end

section
/- Package round: Int; RoundModes in numbers. Conditions: terms of at most 20000 words. -/
open Go.RowKit
set_option maxRecDepth 100000
namespace Go.Proofs.YteahcbeohopdlaaDoor
/-- What Int leaves: an integer and no error. -/
def IntR (W : World) (sg : Bool) (z : Int) (e : Ending) (w' : World) : Prop := ∃ A c, e = .returned (.tuple #[.agg #[.bool sg, .slice A (dl z.natAbs) c], .int .i64 0]) ∧ ZA w' sg A (dl z.natAbs) c z ∧ Hid (Below W.heap.size W w')
section
variable {W : World} {b : Bool} {A A' : Option Addr} {n n' c c' K : Nat} {m : Int} {r : Rat}
set_option maxHeartbeats 8000000 in
theorem rint_h (h : QA W b A n c A' n' c' r K) (hm : 1 ≤ m ∧ m ≤ 7) (hK : K ≤ 20000) {t : Int} (ht : rdR m r = t) : Calls Tryd.prog 41 #[.agg #[.bool b, .slice A n c, .slice A' n' c'], .int .i64 m] W (IntR W (decide (t < 0)) t) := by
  obtain ⟨z, d, hz, hd, hr⟩ := h
  obtain ⟨st, hst⟩ : ∃ u, u = decide (t < 0) := ⟨_, rfl⟩
  have CM : Hid (∀ W', Calls Tryd.prog 83 #[.int .i64 m] W' (RetB W' true)) := fun W' => by
    have h1 := mode_h (W := W') (m := m)
    rwa [decide_eq_true hm] at h1
  have CW : Hid (∀ W', Bel W W' → Calls Tryd.prog 90 #[.agg #[.bool b, .slice A n c], .agg #[.slice A' n' c'], .int .i64 m] W' (ZRu W' st t)) := fun W' hw => by
    have h1 := whole_r (hz.up hw.hid) (hd.up hw.hid) hm hr.out.2.1 hr.out.2.2 hK
    rw [rdZ_mk, hr.out.1, ht] at h1
    rw [hst]
    exact h1
  rw [← hst]
  clear hz hd hr hm hK ht hst
  have HB := Bel.refl W
  go_enter Tryd.func41, Tryd.ntmps41
  go_wp2_with (first | (go_at_call 83; (with_reducible refine (CM.out _).mono ?_); rintro e w1 ⟨rfl, hbk⟩; replace hbk := Bel.hid hbk; (with_reducible (have H0 : At w1 W.heap.size [.bool b, .slice A n c, .slice A' n' c'] := At.up ((at_new0 _ _ _).al _) hbk; have HR : At w1 (W.heap.size + 1) [.bool false, .slice none 0 0] := At.up (at_new1 _ _ _ _) hbk; replace HB := ((HB.al _).al _).up hbk)); have h0_0 := H0.c0; have h0_1 := H0.c1; have h0_2 := H0.c2; have h0_l := H0.lt) | (go_at_call 90; (with_reducible refine (CW.out _ HB).mono ?_); rintro e w2 ⟨B, e, rfl, zt, hbk⟩; (with_reducible (replace HB := HB.up hbk; replace HR := HR.up hbk)); clear h0_0 h0_1 h0_2 h0_l; have hr_0 := HR.c0; have hr_1 := HR.c1; have hr_l := HR.lt; have hr_f0 := HR.f0; have hr_f1 := HR.f1) | fail)
  refine bodyPost_ret (v := .tuple #[.agg #[.bool st, .slice B (dl t.natAbs) e], .int .i64 0]) (by simp [results, Tryd.results41, go_sem, hr_0, hr_1]) rfl ?_
  have z1 := zt.1
  exact ⟨B, e, rfl, zt.mv ((z1.put (i := 0) HR (by simp) now2 _).put (HR.put (i := 0) (by simp) (.bool st)) (i := 1) (by simp) now2 _), (HB.put2 (by omega) _ _).hid⟩
end
/-- Which integers the modes take: the one below, or the one above. -/
structure Modes (r : Rat) : Prop where
  fl : rdR 3 r = r.floor
  lo : cmpR ((rdR 3 r : Int) : Rat) r ≤ 0
  hi : cmpR r ((rdR 4 r : Int) : Rat) ≤ 0
  pos : 0 ≤ r.num → rdR 1 r = rdR 3 r ∧ rdR 2 r = rdR 4 r
  neg : r.num < 0 → rdR 1 r = rdR 4 r ∧ rdR 2 r = rdR 3 r
  half : ∀ m, rdR m r = rdR 3 r ∨ rdR m r = rdR 4 r
theorem modes_of (r : Rat) : Modes r := by
  have hd := r.den_pos
  have hq : (0 : Int) < (r.den : Int) := by omega
  have h1 := Int.emod_add_mul_ediv r.num (r.den : Int)
  have h2 := Int.emod_nonneg r.num (by omega : (r.den : Int) ≠ 0)
  have h3 := Int.emod_lt_of_pos r.num hq
  have n3 := rd_near (m := 3) (p := r.num) hd
  have n4 := rd_near (m := 4) (p := r.num) hd
  have hfl : r.floor = r.num / (r.den : Int) := Rat.floor_def r
  obtain ⟨f, hf⟩ : ∃ f, f = r.num / (r.den : Int) := ⟨_, rfl⟩
  obtain ⟨e, he⟩ : ∃ e, e = r.num % (r.den : Int) := ⟨_, rfl⟩
  rw [← hf, ← he] at h1
  rw [← he] at h2 h3
  have key : ∀ m, rdR m r = if e = 0 then f else if rdUp m f e.natAbs r.den = true then f + 1 else f := fun m => by
    unfold rdR rdZ
    rw [if_neg (by omega), ← hf, ← he]
  have k3 : rdR 3 r = f := by
    rw [key]
    split
    · rfl
    · rw [if_neg (by unfold rdUp lnUp; simp)]
  have k4 : rdR 4 r = if e = 0 then f else f + 1 := by
    rw [key]
    split
    · rfl
    · rw [if_pos (by unfold rdUp lnUp; simp)]
  have sgn : 0 ≤ r.num ↔ 0 ≤ f := by
    constructor
    · intro h; rw [hf]; exact Int.ediv_nonneg h (by omega)
    · intro h
      have := Int.mul_nonneg (Int.le_of_lt hq) h
      omega
  have cmpI_r : ∀ t : Int, cmpR (t : Rat) r = (if t * (r.den : Int) < r.num then -1 else if r.num < t * (r.den : Int) then 1 else 0) := fun t => by
    have h5 := cmp_mk (z := t) (z' := r.num) (d := 1) (d' := r.den) (by decide) hd
    rw [Rat.mkRat_self, Rat.mkRat_one] at h5
    rw [h5]; simp
  have cmpI_l : ∀ t : Int, cmpR r (t : Rat) = (if r.num < t * (r.den : Int) then -1 else if t * (r.den : Int) < r.num then 1 else 0) := fun t => by
    have h5 := cmp_mk (z := r.num) (z' := t) (d := r.den) (d' := 1) hd (by decide)
    rw [Rat.mkRat_self, Rat.mkRat_one] at h5
    rw [h5]; simp
  have hfc : f * (r.den : Int) = (r.den : Int) * f := Int.mul_comm _ _
  refine ⟨by rw [k3, hfl, hf], ?_, ?_, ?_, ?_, ?_⟩
  · rw [cmpI_r, k3]
    split
    · decide
    · rw [if_neg (by omega)]; decide
  · rw [cmpI_l, k4]
    by_cases h0 : e = 0
    · rw [if_pos h0]
      split
      · decide
      · rw [if_neg (by omega)]; decide
    · rw [if_neg h0, Int.add_mul, Int.one_mul]
      rw [if_pos (by omega)]; decide
  · intro h
    have hf0 := sgn.1 h
    refine ⟨?_, ?_⟩
    · rw [k3, key]
      split
      · rfl
      · rw [if_neg (by unfold rdUp lnUp; simp; omega)]
    · rw [k4, key]
      split
      · rfl
      · rw [if_pos (by unfold rdUp lnUp; simp; omega)]
  · intro h
    have hf0 : f < 0 := by
      have := sgn.2
      omega
    refine ⟨?_, ?_⟩
    · rw [k4, key]
      split
      · rfl
      · rw [if_pos (by unfold rdUp lnUp; simp; omega)]
    · rw [k3, key]
      split
      · rfl
      · rw [if_neg (by unfold rdUp lnUp; simp; omega)]
  · intro m
    rw [k3, k4, key]
    by_cases h0 : e = 0
    · rw [if_pos h0]; exact .inl rfl
    · rw [if_neg h0, if_neg h0]
      split
      · exact .inr rfl
      · exact .inl rfl
end Go.Proofs.YteahcbeohopdlaaDoor
end

section
/- RoundModes' walk. No conditions. -/
open Go.RowKit
set_option maxRecDepth 100000
namespace Go.Proofs.YteahcbeohopdlaaDoor
section
variable {W w : World} {b : Bool} {A A' : Option Addr} {n c n' c' : Nat} {r : Rat}
theorem At.ci {p i : Nat} {vs : List Value} {v : Value} (h : At W p vs) (hi : vs[i]? = some v) : W.cell? ⟨p, i, none⟩ = some v := (h.all i v hi).1
theorem At.fi {p i : Nat} {vs : List Value} {v : Value} (h : At W p vs) (hi : vs[i]? = some v) : W.frozen? ⟨p, i, none⟩ = false := (h.all i v hi).2
theorem za_put2 {p i : Nat} {vs : List Value} {s b0 : Bool} {B : Option Addr} {k e : Nat} {z : Int} {a : Option Addr} {l q : Nat} (h : ZA W s B k e z) (hp : At W p vs) (h0 : vs[i]? = some (.bool b0)) (h1 : vs[i + 1]? = some (.slice a l q)) (x y : Value) : ZA ((W.setCell ⟨p, i, none⟩ x).setCell ⟨p, i + 1, none⟩ y) s B k e z := by
  have g0 := h.1
  have hl : i < vs.length := (List.getElem?_eq_some_iff.1 h0).1
  have h2 : At (W.setCell ⟨p, i, none⟩ x) p (vs.set i x) := hp.put hl x
  have h3 : (vs.set i x)[i + 1]? = some (.slice a l q) := by rw [List.getElem?_set_ne (by omega)]; exact h1
  exact h.mv (Nm.putx (Nm.putx g0 ⟨.bool b0, hp.ci h0, fun x h => by cases h⟩ x) ⟨.slice a l q, h2.ci h3, not_u32⟩ y)
def enB (sg : Nat → Bool) (k j : Nat) : Value := if 1 ≤ j ∧ j < k then .bool (sg j) else .bool false
def enS (v : Nat → Int) (B : Nat → Option Addr) (E : Nat → Nat) (k j : Nat) : Value := if 1 ≤ j ∧ j < k then .slice (B j) (dl (v j).natAbs) (E j) else .slice none 0 0
def arr (sg : Nat → Bool) (v : Nat → Int) (B : Nat → Option Addr) (E : Nat → Nat) (k : Nat) : List Value :=
  [enB sg k 0, enS v B E k 0, enB sg k 1, enS v B E k 1, enB sg k 2, enS v B E k 2, enB sg k 3, enS v B E k 3, enB sg k 4, enS v B E k 4, enB sg k 5, enS v B E k 5, enB sg k 6, enS v B E k 6, enB sg k 7, enS v B E k 7]
set_option maxHeartbeats 4000000 in
theorem modes_x0 (w : World) (h : ¬ (n ≤ 12 ∧ n' ≤ 12)) : Calls Tryd.prog 5 #[.agg #[.bool b, .slice A n c, .slice A' n' c']] w fun e w' => e = .returned (.bool true) ∧ Below w.heap.size w w' := by
  have CL : Hid (∀ W, Calls Tryd.prog 43 #[.agg #[.bool b, .slice A n c, .slice A' n' c']] W (BoolR W true)) := fun W => long5_n h
  clear h
  have HB := Bel.refl w
  go_enter Tryd.func5, Tryd.ntmps5
  go_wp2_with (first | (go_at_call 34; (with_reducible refine (awake5_any _).mono ?_); rintro e w1 ⟨rfl, hbk⟩; (with_reducible (have HA : At w1 w.heap.size [.bool b, .slice A n c, .slice A' n' c'] := At.up (at_new0 _ _ _) hbk; replace HB := (HB.al _).up hbk)); have ha_0 := HA.c0; have ha_1 := HA.c1; have ha_2 := HA.c2; have ha_l := HA.lt) | (go_at_call 43; (with_reducible refine (CL.out _).mono ?_); rintro e w2 ⟨rfl, hbk⟩; (with_reducible (replace HB := HB.up hbk; replace HA := HA.up hbk)); clear ha_0 ha_1 ha_2 ha_l; have ha_0 := HA.c0; have ha_1 := HA.c1; have ha_2 := HA.c2; have ha_l := HA.lt) | fail)
  go_ret
  exact ⟨rfl, HB⟩
set_option maxHeartbeats 4000000 in
theorem modes_x1 (w : World) (h : n ≤ 12 ∧ n' ≤ 12) (hg : ∀ W, Bel w W → Calls Tryd.prog 44 #[.agg #[.bool b, .slice A n c, .slice A' n' c']] W (RetB W false)) : Calls Tryd.prog 5 #[.agg #[.bool b, .slice A n c, .slice A' n' c']] w fun e w' => e = .returned (.bool true) ∧ Below w.heap.size w w' := by
  have CL : Hid (∀ W, Calls Tryd.prog 43 #[.agg #[.bool b, .slice A n c, .slice A' n' c']] W (BoolR W false)) := fun W => long5_h h.1 h.2
  have CG := hide hg
  clear h hg
  have HB := Bel.refl w
  go_enter Tryd.func5, Tryd.ntmps5
  go_wp2_with (first | (go_at_call 34; (with_reducible refine (awake5_any _).mono ?_); rintro e w1 ⟨rfl, hbk⟩; (with_reducible (have HA : At w1 w.heap.size [.bool b, .slice A n c, .slice A' n' c'] := At.up (at_new0 _ _ _) hbk; replace HB := (HB.al _).up hbk)); have ha_0 := HA.c0; have ha_1 := HA.c1; have ha_2 := HA.c2; have ha_l := HA.lt) | (go_at_call 43; (with_reducible refine (CL.out _).mono ?_); rintro e w2 ⟨rfl, hbk⟩; (with_reducible (replace HB := HB.up hbk; replace HA := HA.up hbk)); clear ha_0 ha_1 ha_2 ha_l; have ha_0 := HA.c0; have ha_1 := HA.c1; have ha_2 := HA.c2; have ha_l := HA.lt) | (go_at_call 44; (with_reducible refine (CG.out _ HB).mono ?_); rintro e w3 ⟨rfl, hbk⟩; replace hbk := Bel.hid hbk; (with_reducible (replace HB := HB.up hbk; replace HA := HA.up hbk)); clear ha_0 ha_1 ha_2 ha_l; have ha_0 := HA.c0; have ha_1 := HA.c1; have ha_2 := HA.c2; have ha_l := HA.lt) | fail)
  go_ret
  exact ⟨rfl, HB⟩
end
end Go.Proofs.YteahcbeohopdlaaDoor
end
