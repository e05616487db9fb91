/- Several texts in one, each with its own sentence and conditions. -/
import Derived.Test.YtmiklffjffdkgaaGreatDoorRia
import Derived.Test.YtmiklffjffdkgaaGreatDoorGRwbc27
import Derived.Test.YtmiklffjffdkgaaGreatDoorGRwbc14
import Derived.Test.YtmiklffjffdkgaaGreatDoorGRwbc13
import Derived.Test.YtmiklffjffdkgaaGreatDoorGRwbc20
import Derived.Deep.RegionHeld3
import Derived.Deep.CutRange
import Derived.Test.YtmiklffjffdkgaaGreatDoorGRwbc25
section
/- The document's own Int is the fraction rounded by the mode. Conditions: terms of at most 100 words. -/
open Go.RowKit
set_option maxRecDepth 100000
namespace Go.Proofs.YtmiklffjffdkgaaGreatDoor
theorem w32_le {x i j : Nat} (h : x < W32 ^ i) (hij : i ≤ j) : x < W32 ^ j := Nat.lt_of_lt_of_le h (Nat.pow_le_pow_right (by decide) hij)
section
variable {W : World} {b : Bool} {A A' : Option Addr} {c c' K : Nat} {r : Rat} {mode t : Int}
theorem whole_den {r : Rat} : r.num % (r.den : Int) = 0 ↔ r.den = 1 := by
  constructor
  · intro h
    have h1 : (r.den : Int) ∣ r.num := Int.dvd_of_emod_eq_zero h
    have h2 : r.den ∣ r.num.natAbs := Int.ofNat_dvd_left.1 h1
    have h3 := r.reduced
    have h4 : Nat.gcd r.num.natAbs r.den = r.den := Nat.gcd_eq_right h2
    rw [Nat.Coprime, h4] at h3
    exact h3
  · intro h; rw [h]; exact Int.emod_one _
theorem half_sign {z : Int} {d : Nat} (hd : 0 < d) : (mkRat (z % (d : Int)) d + -(mkRat 1 2)).num.sign = (2 * (z % (d : Int)) - (d : Int)).sign := by
  have e : mkRat (z % (d : Int)) d + -(mkRat 1 2) = mkRat (2 * (z % (d : Int)) - (d : Int)) (d * 2) := by
    rw [Rat.neg_mkRat, Rat.mkRat_add_mkRat _ _ (by omega) (by decide)]
    congr 1
    simp
    omega
  rw [e, sign_mk (by omega)]
theorem even_abs (f : Int) : decide (f % 2 ≠ 0) = decide (f.natAbs % 2 = 1) := decide_eq_decide.2 (by omega)
theorem ln1 (f : Int) : lnUp 1 f = decide (f < 0) := by simp [lnUp]
theorem ln5 (f : Int) : lnUp 5 f = decide (f < 0) := by simp [lnUp]
theorem ln2 (f : Int) : lnUp 2 f = !decide (f < 0) := by simp [lnUp]
theorem ln6 (f : Int) : lnUp 6 f = !decide (f < 0) := by simp [lnUp]
theorem ln3 (f : Int) : lnUp 3 f = false := by simp [lnUp]
theorem ln4 (f : Int) : lnUp 4 f = true := by simp [lnUp]
theorem ln7 (f : Int) : lnUp 7 f = decide (f.natAbs % 2 = 1) := by
  have e : lnUp 7 f = decide (f % 2 ≠ 0) := by simp [lnUp]
  rw [e, even_abs]
theorem if_bnot {b : Bool} {x y : Int} : (if (!b) = true then x else y) = if b = true then y else x := by cases b <;> rfl
/-- Which of the four a mode takes. -/
theorem int_cases {f r h : Int} {q : Nat} {b : Bool} (hm : 1 ≤ mode ∧ mode ≤ 7) (h0 : 0 ≤ r) (hh : h = (2 * r - (q : Int)).sign) (hb : b = decide (f < 0)) {v : Int} (hv : v = if rdUp mode f r.natAbs q = true then f + 1 else f) :
    (mode = 1 ∧ v = if b then f + 1 else f) ∨ (mode = 2 ∧ v = if b then f else f + 1) ∨ (mode = 3 ∧ v = f) ∨ (mode = 4 ∧ v = f + 1) ∨ (5 ≤ mode ∧ mode ≤ 7 ∧ h < 0 ∧ v = f) ∨ (5 ≤ mode ∧ mode ≤ 7 ∧ 0 < h ∧ v = f + 1) ∨ (mode = 5 ∧ h = 0 ∧ v = if b then f + 1 else f) ∨ (mode = 6 ∧ h = 0 ∧ v = if b then f else f + 1) ∨ (mode = 7 ∧ h = 0 ∧ f.natAbs % 2 = 0 ∧ v = f) ∨ (mode = 7 ∧ h = 0 ∧ f.natAbs % 2 = 1 ∧ v = f + 1) := by
  have e1 : ∀ {u : Bool}, u = true → (if u then f + 1 else f) = f + 1 := fun h => by rw [h]; rfl
  have hr : (r.natAbs : Int) = r := Int.natAbs_of_nonneg h0
  have hn1 : h < 0 ↔ r.natAbs + r.natAbs < q := by rw [hh, Int.sign_neg_iff]; omega
  have hn2 : 0 < h ↔ q < r.natAbs + r.natAbs := by rw [hh, Int.sign_pos_iff]; omega
  by_cases c4 : mode ≤ 4
  · have hu : rdUp mode f r.natAbs q = lnUp mode f := by unfold rdUp; rw [if_pos c4]
    rw [hu] at hv
    have : mode = 1 ∨ mode = 2 ∨ mode = 3 ∨ mode = 4 := by omega
    rcases this with rfl | rfl | rfl | rfl
    · left; exact ⟨rfl, by rw [hv, hb, ln1]⟩
    · right; left; exact ⟨rfl, by rw [hv, hb, ln2, if_bnot]⟩
    · right; right; left; exact ⟨rfl, by rw [hv, ln3]; rfl⟩
    · right; right; right; left; exact ⟨rfl, by rw [hv, ln4]; rfl⟩
  · by_cases k1 : r.natAbs + r.natAbs < q
    · have hu : rdUp mode f r.natAbs q = false := by unfold rdUp; rw [if_neg c4, if_pos k1]
      rw [hu] at hv
      right; right; right; right; left
      exact ⟨by omega, hm.2, hn1.2 k1, hv⟩
    · by_cases k2 : q < r.natAbs + r.natAbs
      · have hu : rdUp mode f r.natAbs q = true := by unfold rdUp; rw [if_neg c4, if_neg k1, if_pos k2]
        rw [hu] at hv
        right; right; right; right; right; left
        exact ⟨by omega, hm.2, hn2.2 k2, hv⟩
      · have hu : rdUp mode f r.natAbs q = lnUp mode f := by unfold rdUp; rw [if_neg c4, if_neg k1, if_neg k2]
        rw [hu] at hv
        have hz : h = 0 := by
          have a1 := fun h9 => k1 (hn1.1 h9)
          have a2 := fun h9 => k2 (hn2.1 h9)
          omega
        right; right; right; right; right; right
        have : mode = 5 ∨ mode = 6 ∨ mode = 7 := by omega
        rcases this with rfl | rfl | rfl
        · left; exact ⟨rfl, hz, by rw [hv, hb, ln5]⟩
        · right; left; exact ⟨rfl, hz, by rw [hv, hb, ln6, if_bnot]⟩
        · rw [ln7] at hv
          by_cases hp : f.natAbs % 2 = 1
          · right; right; right
            rw [decide_eq_true hp] at hv
            exact ⟨rfl, hz, hp, hv⟩
          · right; right; left
            rw [decide_eq_false hp] at hv
            exact ⟨rfl, hz, by omega, hv⟩
theorem rq_m {r : Rat} {z : Int} {d : Nat} {s : Bool} {e : Ending} {w' : World} (e1 : r.num = z) (e2 : r.den = d) (hs : s = decide (z < 0)) (h : RQ W r e w') : RQm W s z d e w' := by
  subst e1; subst e2; subst hs
  obtain ⟨A, c, A', c', he, n1, n2, hb⟩ := h
  exact ⟨A, c, A', c', he, ⟨n1, rfl⟩, n2, hb⟩
theorem half_num : (mkRat 1 2).num = 1 := by decide +kernel
theorem half_den : (mkRat 1 2).den = 2 := by decide +kernel
/-- Int of a fraction. -/
theorem rint_doc (h : Rz W b A c r.num) (h' : Rn W A' c' r.den) (hb : Bd r K) (hK : K ≤ 100) (hm : 1 ≤ mode ∧ mode ≤ 7) (ht : rdR mode r = t) :
    Calls Tryz.prog 13 #[.agg #[.bool b, .slice A (dq r.num.natAbs) c, .slice A' (dq r.den) c'], .int .i64 mode] W (RZv W (decide (t < 0)) t) := by
  have hd := r.den_pos
  have l1 : dq r.num.natAbs ≤ 300 := Nat.le_trans (dq_words hb.1) (by omega)
  have l2 : dq r.den ≤ 300 := Nat.le_trans (dq_words hb.2) (by omega)
  obtain ⟨lo, hlo⟩ : ∃ f, r.num / (r.den : Int) = f := ⟨_, rfl⟩
  have hmod := Int.emod_add_mul_ediv r.num (r.den : Int)
  have hm0 := Int.emod_nonneg r.num (show (r.den : Int) ≠ 0 by omega)
  have hm1 := Int.emod_lt_of_pos r.num (show (0 : Int) < (r.den : Int) by omega)
  have CF : ∀ W', Bel W W' → Calls Tryz.prog 34 #[.agg #[.bool b, .slice A (dq r.num.natAbs) c, .slice A' (dq r.den) c']] W' (RZv W' (decide (lo < 0)) lo) := fun W' hW => rqfloor_h (h.up hW.hid) (h'.up hW.hid) hd (by omega) (by omega) hlo rfl
  have CX : ∀ W', Bel W W' → Calls Tryz.prog 35 #[.slice A' (dq r.den) c'] W' (TxB W' (decide (r.den = 1))) := fun W' hW =>
    (rText_any (h'.up hW.hid) (by omega)).mono fun e w' ⟨tx, he, htx, hbk⟩ => ⟨tx, he, by
      by_cases h1 : r.den = 1
      · rw [decide_eq_true h1, toList_data, htx.out, h1, one_txt]; rfl
      · rw [decide_eq_false h1]; exact decL_no1 h1 htx.out, hbk⟩
  have lob : lo.natAbs ≤ r.num.natAbs := by
    have h1 := hmod
    rw [hlo] at h1
    have h2 : (1 : Int) ≤ (r.den : Int) := by omega
    rcases Int.lt_or_le lo 0 with h3 | h3
    · have : (r.den : Int) * lo ≤ lo := by
        have := Int.mul_le_mul_of_nonpos_right h2 (Int.le_of_lt h3)
        omega
      by_cases h4 : r.den = 1
      · rw [h4] at h1 hm1; omega
      · have h5 : (2 : Int) ≤ (r.den : Int) := by omega
        have h6 : (r.den : Int) * lo ≤ 2 * lo := Int.mul_le_mul_of_nonpos_right h5 (Int.le_of_lt h3)
        have h7 : (r.den : Int) * lo = (r.den : Int) * (lo + 1) - (r.den : Int) := by rw [Int.mul_add]; omega
        have h8 : (r.den : Int) * (lo + 1) ≤ (lo + 1) := by
          have := Int.mul_le_mul_of_nonpos_right h2 (show lo + 1 ≤ 0 by omega)
          omega
        omega
    · have : lo ≤ (r.den : Int) * lo := by
        have := Int.mul_le_mul_of_nonneg_right h2 h3
        omega
      omega
  by_cases h1 : r.den = 1
  · have e : t = lo := by
      rw [← ht, ← hlo]
      unfold rdR rdZ
      rw [if_neg (by omega), if_pos (whole_den.2 h1)]
    rw [e]
    exact rint_int (q := 0) (i1 := 0) (hf := 0) (ng := 0) (hi := 0) (rr := 0) (qq := 0) (n2 := 0) (n1 := 0) (sq := false) (sn := false) (sh := false) CF CX (decide_eq_true h1)
  · have hz : ¬ r.num % (r.den : Int) = 0 := fun h9 => h1 (whole_den.1 h9)
    have hv : t = if rdUp mode lo (r.num % (r.den : Int)).natAbs r.den = true then lo + 1 else lo := by
      rw [← ht]
      unfold rdR rdZ
      rw [if_neg (by omega), if_neg hz, hlo]
    obtain ⟨m, hmm⟩ : ∃ m, m = r.num % (r.den : Int) := ⟨_, rfl⟩
    have hbl : b = decide (lo < 0) := by
      rw [h.2.out]
      refine decide_eq_decide.2 ?_
      rw [hlo, ← hmm] at hmod
      rw [← hmm] at hm0 hm1 hz
      constructor
      · intro hn
        rcases Int.lt_or_le lo 0 with h3 | h3
        · exact h3
        · have := Int.mul_nonneg (show (0 : Int) ≤ (r.den : Int) by omega) h3
          omega
      · intro hn
        have h5 : (r.den : Int) * lo ≤ (r.den : Int) * (-1) := Int.mul_le_mul_of_nonneg_left (by omega) (by omega)
        omega
    have bq : Bd (mkRat m r.den) (K + 1) := tt_bd ⟨hd, rfl, w32_le (Nat.lt_of_le_of_lt (by omega) hb.2) (Nat.le_succ K), w32_le hb.2 (Nat.le_succ K)⟩
    have bh : Bd (mkRat 1 2) (K + 1) := ⟨by rw [half_num]; exact w32_le (i := 1) (by decide) (by omega), by rw [half_den]; exact w32_le (i := 1) (by decide) (by omega)⟩
    have dqb : ∀ {x : Nat} {j : Nat}, x < W32 ^ j → j ≤ 202 → dq x ≤ 606 := fun hx hj => Nat.le_trans (dq_words hx) (by omega)
    have q1 : dq 1 ≤ 606 := dqb (j := 1) (by decide) (by omega)
    have q2 : dq 2 ≤ 606 := dqb (j := 1) (by decide) (by omega)
    have lob' : lo.natAbs < W32 ^ K := Nat.lt_of_le_of_lt lob hb.1
    have ql : dq lo.natAbs ≤ 606 := dqb lob' (by omega)
    have qnl : dq (-lo).natAbs ≤ 606 := by rw [Int.natAbs_neg]; exact ql
    have qp : dq (-lo * (r.den : Int)).natAbs ≤ 606 := by
      rw [Int.natAbs_mul, Int.natAbs_neg, Int.natAbs_natCast]
      exact dqb (j := K + K) (by rw [Nat.pow_add]; exact Nat.mul_lt_mul'' lob' hb.2) (by omega)
    have es : r.num * ((1 : Nat) : Int) + -lo * (r.den : Int) = m := by
      rw [hlo] at hmod
      have h7 : -lo * (r.den : Int) = -((r.den : Int) * lo) := by rw [Int.neg_mul, Int.mul_comm]
      have h8 : r.num * ((1 : Nat) : Int) = r.num := Int.mul_one _
      rw [h7, h8, hmm]
      omega
    have hv2 := int_cases (h := (2 * m - (r.den : Int)).sign) (b := b) hm hm0 (by rw [hmm]) hbl hv
    refine rint_mid (n1 := 1) (n2 := 2) (qq := lo.natAbs / 2) (rr := lo.natAbs % 2) (lo := lo) (hi := lo + 1) (ng := -lo) (hf := (2 * m - (r.den : Int)).sign) (i1 := 1) (q := mkRat m r.den) (sl := decide (lo < 0)) (sh := decide (lo + 1 < 0)) (sn := decide (-lo < 0)) (sq := decide ((mkRat m r.den).num < 0)) (one := decide (r.den = 1)) (ne := if b then lo + 1 else lo) (fa := if b then lo else lo + 1) (ss := if b then decide (lo + 1 < 0) else decide (lo < 0)) (sf := if b then decide (lo < 0) else decide (lo + 1 < 0))
      CF CX (fun W' => ?c1) (fun W' B e C f g1 g2 => rzadd_h g1 g2 (by omega) (by show dq 1 ≤ 99999; omega) rfl rfl) (fun W' => Small_any (n := 1) (by decide)) (fun W' B e C f g1 g2 => rqneg_h g1 g2 rfl rfl)
      (fun W' B e C f hW g1 g2 => ?ca) (fun W' => Small_any (n := 2) (by decide)) (fun W' B e C f g1 g2 => (rqof_h (z := 1) (b := false) g1.1 g2 rfl (by decide) rfl (by show dq 1 ≤ 99999; omega) (by omega)).mono fun _ _ h9 => rq_m half_num half_den rfl h9)
      (fun W' B e B' e' C f C' f' g1 g2 g3 g4 => ?cc) (fun W' B e C f g1 g2 => rDiv_any g1.1 g2 (by omega) (by omega) (by decide)) (decide_eq_false h1) ?hb hv2 rfl
    case c1 => exact (zint_h (z := 1) (by decide) (by decide)).mono fun e w' ⟨D, d, he, hn, hbk⟩ => ⟨D, d, he, ⟨hn, rfl⟩, hbk⟩
    case ca =>
      exact rqadd_h (h.up hW.hid) (h'.up hW.hid) g1 g2 hd (by decide) (by omega) (by omega) (by omega) (by omega) (by rw [show r.num * ((1 : Nat) : Int) = r.num from Int.mul_one _]; omega) (by omega) (by rw [es]; exact Nat.le_trans (dqb (j := K) (Nat.lt_of_le_of_lt (by omega) hb.2) (by omega)) (by omega)) (by rw [Nat.mul_one]; omega) (by rw [es, Nat.mul_one])
    case cc =>
      have h9 := rqcmp_c (W := W') (v := (2 * m - (r.den : Int)).sign) (b := decide ((mkRat m r.den).num < 0)) (b' := false) (A := B) (A' := B') (B := C) (B' := C') (c := e) (c' := e') (e := f) (e' := f') bq bh (by omega) g1 g2 (by rw [half_num]; exact g3) (by rw [half_den]; exact g4) (by rw [hmm]; exact half_sign hd)
      rw [half_num, half_den] at h9
      exact h9
    case hb =>
      cases b
      · exact .inl ⟨rfl, rfl, rfl, rfl, rfl⟩
      · exact .inr ⟨rfl, rfl, rfl, rfl, rfl⟩
end
end Go.Proofs.YtmiklffjffdkgaaGreatDoor
end

section
/- The document's own scaled and To. Conditions: terms of at most 60 words. -/
open Go.RowKit
set_option maxRecDepth 100000
namespace Go.Proofs.YtmiklffjffdkgaaGreatDoor
/-- What a call that may refuse leaves: a numeral of the document's own and whether it is one. -/
def KR (W : World) (ok : Bool) (pb : Bool) (pv ps : Nat) (u : Bool) (A : Option Addr) (n c : Nat) (k : Int) : Prop := ok = true → u = pb ∧ n = dq pv ∧ k = ps ∧ Rn W A c pv
def DTo (W : World) (ok : Bool) (pb : Bool) (pv ps : Nat) (e : Ending) (w' : World) : Prop := ∃ u A n c, ∃ k : Int, e = .returned (.tuple #[.agg #[.bool u, .slice A n c, .int .i64 k], .bool ok]) ∧ KR w' ok pb pv ps u A n c k ∧ Hid (Below W.heap.size W w')
theorem ten_w (k : Nat) : 10 ^ k < W32 ^ (k + 1) := by
  have h1 : 10 ^ k ≤ W32 ^ k := Nat.pow_le_pow_left (by decide) k
  have h2 : W32 ^ k < W32 ^ (k + 1) := Nat.pow_lt_pow_right (by decide) (by omega)
  omega
theorem ez_newT (W : World) (u v z : Value) (t : TypeId) : Ez (W.alloc (.cells #[u, v, z] t)) W.heap.size :=
  ⟨by simp, by have h := heap_alloc_new W (.cells #[u, v, z] t); unfold World.cell?; rw [show (⟨W.heap.size, 3, none⟩ : Addr).block = W.heap.size from rfl, h]; rfl⟩
/-- A number goes on through the write of a numeral into a box that is still nought. -/
theorem rn_dbox {w1 : World} {p : Nat} {B : Option Addr} {d v : Nat} (rn : Rn w1 B d v) (hr_0 : w1.cell? ⟨p, 0, none⟩ = some (.bool false)) (hr_1 : w1.cell? ⟨p, 1, none⟩ = some (.slice none 0 0)) (hr_2 : w1.cell? ⟨p, 2, none⟩ = some (.int .i64 0)) (hz : w1.cell? ⟨p, 3, none⟩ = none) (u : Bool) (D : Option Addr) (i j : Nat) (k : Int) :
    Rn (((w1.setCell ⟨p, 0, none⟩ (.bool u)).setCell ⟨p, 1, none⟩ (.slice D i j)).setCell ⟨p, 2, none⟩ (.int .i64 k)) B d v := by
  have r0 := RN.setn rn hr_0 (by intro x h; cases h) (.bool u)
  have r1 := RN.setn r0 ((World.cell?_setCell_other _ _ _ _ (by intro e; cases e)).trans hr_1) (by intro x h; cases h) (.slice D i j)
  have r2 := RN.setZ r1 ((World.cell?_setCell_other _ _ _ _ (by intro e; cases e)).trans ((World.cell?_setCell_other _ _ _ _ (by intro e; cases e)).trans hr_2)) ((World.cell?_setCell_other _ _ _ _ (by intro e; cases e)).trans ((World.cell?_setCell_other _ _ _ _ (by intro e; cases e)).trans hz)) (.int .i64 k)
  unfold Rn
  refine RN.more r2 ?_
  simp [World.setCell]
section
variable {W : World} {b : Bool} {A A' : Option Addr} {c c' K s : Nat} {r x : Rat} {mode t : Int}
theorem scale_bd (hb : Bd r K) (hs : s ≤ 60) (hx : mkRat (r.num * ((10 ^ s : Nat) : Int)) (r.den * 1) = x) : Bd x (K + 61) := by
  rw [← hx]
  refine tt_bd ⟨by have := r.den_pos; omega, rfl, ?_, ?_⟩
  · rw [Int.natAbs_mul, Int.natAbs_natCast, Nat.pow_add]
    exact Nat.mul_lt_mul'' hb.1 (Nat.lt_of_lt_of_le (ten_w s) (Nat.pow_le_pow_right (by decide) (by omega)))
  · rw [Nat.mul_one]; exact w32_le hb.2 (by omega)
set_option maxHeartbeats 8000000 in
theorem rscaled_h (h : Rz W b A c r.num) (h' : Rn W A' c' r.den) (hb : Bd r K) (hK : K ≤ 60) (hs : s ≤ 60) (hx : mkRat (r.num * ((10 ^ s : Nat) : Int)) (r.den * 1) = x) :
    Calls Tryz.prog 43 #[.agg #[.bool b, .slice A (dq r.num.natAbs) c, .slice A' (dq r.den) c'], .int .i64 (s : Int)] W (RQm W (decide (x.num < 0)) x.num x.den) := by
  obtain ⟨p, hp⟩ : ∃ p, p = 10 ^ s := ⟨_, rfl⟩
  obtain ⟨n1, hn1⟩ : ∃ n, n = 1 := ⟨_, rfl⟩
  have pb : p < W32 ^ 61 := by rw [hp]; exact Nat.lt_of_lt_of_le (ten_w s) (Nat.pow_le_pow_right (by decide) (by omega))
  have CT : Hid (∀ W', Calls Tryz.prog 46 #[.int .i64 (s : Int)] W' (RefRz W' p)) := fun W' => by rw [hp]; exact rTen_any (by omega)
  have CO : Hid (∀ W', Calls Tryz.prog 41 #[.int .u64 1] W' (RefRz W' n1)) := fun W' => by rw [hn1]; exact Small_any (n := 1) (by decide)
  have CM : Hid (∀ W' B e B' e', Bel W W' → Rn W' B e p → Rn W' B' e' n1 → Calls Tryz.prog 47 #[.agg #[.bool b, .slice A (dq r.num.natAbs) c, .slice A' (dq r.den) c'], .agg #[.bool false, .slice B (dq p) e, .slice B' (dq n1) e']] W' (RQm W' (decide (x.num < 0)) x.num x.den)) := fun W' B e B' e' hW k1 k2 => by
    have e1 : ((p : Int)).natAbs = p := Int.natAbs_natCast _
    have k1' : Rz W' false B e (p : Int) := ⟨by rw [e1]; exact k1, by unfold Hid; rw [decide_eq_false (by omega)]⟩
    have q1 : dq (r.num * (p : Int)).natAbs ≤ 99999 := by
      rw [Int.natAbs_mul, e1]
      exact Nat.le_trans (dq_words (k := K + 61) (by rw [Nat.pow_add]; exact Nat.mul_lt_mul'' hb.1 pb)) (by omega)
    have l1 := dq_words hb.1
    have l2 := dq_words hb.2
    have l3 := dq_words pb
    have h2 := rqmul_h (r := x) (h.up hW.hid) (h'.up hW.hid) k1' (by rw [hn1] at k2; exact k2) r.den_pos (by decide) (by omega) (by omega) (by rw [e1]; omega) (by decide +kernel) q1 (by rw [Nat.mul_one]; omega) (by rw [hp]; exact hx)
    rw [e1] at h2
    rw [hn1]
    exact h2
  clear h h' hb hK hs hx hp hn1 pb
  have HB := Bel.refl W
  go_enter Tryz.func43, Tryz.ntmps43
  go_wp2_with fail
  obtain ⟨W1, hW1⟩ : ∃ X, X = (W.alloc (.cells #[.bool b, .slice A (dq r.num.natAbs) c, .slice A' (dq r.den) c'] 38)).alloc (.cells #[.bool false, .slice none 0 0, .slice none 0 0] 38) := ⟨_, rfl⟩
  rw [← hW1]
  have HA : At W1 W.heap.size [.bool b, .slice A (dq r.num.natAbs) c, .slice A' (dq r.den) c'] := by rw [hW1]; exact (at_new0 _ _ _).al _
  have HR : At W1 (W.heap.size + 1) [.bool false, .slice none 0 0, .slice none 0 0] := by rw [hW1]; exact at_new1 _ _ _ _
  replace HB : Bel W W1 := by rw [hW1]; exact (HB.al _).al _
  clear hW1
  replace HA := HA.dr
  replace HR := HR.dr
  replace HB := HB.dr
  refine wp_region_held_drew (S := fun w' => w'.cell? ⟨W.heap.size, 0, none⟩ = some (.bool b) ∧ w'.cell? ⟨W.heap.size, 1, none⟩ = some (.slice A (dq r.num.natAbs) c) ∧ w'.cell? ⟨W.heap.size, 2, none⟩ = some (.slice A' (dq r.den) c')) (by kernel_rfl) ?_ (fun hHeld => ?_)
  · exact ⟨HA.c0, HA.c1, HA.c2⟩
  generalize W1.drew = Wd at *
  (refine wpAnyH_take (i := 0) (v := ?_) rfl (by decide +kernel) (by decide +kernel) (by decide +kernel) (fun _ _ _ h => h) (Or.inl ⟨by rfl, ?_⟩) (by assumption) ?_; rotate_left; (focus ((intro w hSw; (try dsimp only at hSw); go_simp); (try (with_reducible rfl)); done)); (try simp only [List.getElem_toArray, List.getElem_cons_zero, List.getElem_cons_succ, Act.put, List.setIfInBounds_toArray, List.set_cons_zero, List.set_cons_succ]))
  (refine wpAnyH_take (i := 1) (v := ?_) rfl (by decide +kernel) (by decide +kernel) (by decide +kernel) (fun _ _ _ h => h) (Or.inl ⟨by rfl, ?_⟩) (by assumption) ?_; rotate_left; (focus ((intro w hSw; (try dsimp only at hSw); go_simp); (try (with_reducible rfl)); done)); (try simp only [List.getElem_toArray, List.getElem_cons_zero, List.getElem_cons_succ, Act.put, List.setIfInBounds_toArray, List.set_cons_zero, List.set_cons_succ]))
  (refine wpAnyH_ready (rs := [2]) (by decide +kernel) (by simp) ?_; refine AllReadyH.cons rfl (fun K hK => ?_) AllReadyH.nil; go_simp; (go_at_call 46; (with_reducible refine (CT.out _).mono ?_); rintro e w2 ⟨B1, e1, rfl, k1, hbk⟩; (with_reducible (replace HA := HA.up hbk; replace HR := HR.up hbk; replace HB := HB.up hbk))); (try (go_wp2_with fail)); refine hK.out _ _ ?_ (fun hHeld => ?_); (focus ((try dsimp only); (first | (with_reducible exact ⟨HA.c0, HA.c1, HA.c2⟩) | exact ⟨(((HA.far (by omega) _).far (by omega) _).far (by omega) _).c0, (((HA.far (by omega) _).far (by omega) _).far (by omega) _).c1, (((HA.far (by omega) _).far (by omega) _).far (by omega) _).c2⟩))); clear hK K; (try simp only [List.getElem_toArray, List.getElem_cons_zero, List.getElem_cons_succ, Act.put, List.setIfInBounds_toArray, List.set_cons_zero, List.set_cons_succ]))
  (refine wpAnyH_take (i := 3) (v := ?_) rfl (by decide +kernel) (by decide +kernel) (by decide +kernel) (fun _ _ _ h => h) (Or.inl ⟨by rfl, ?_⟩) (by assumption) ?_; rotate_left; (focus ((intro w hSw; (try dsimp only at hSw); go_simp); (try (with_reducible rfl)); done)); (try simp only [List.getElem_toArray, List.getElem_cons_zero, List.getElem_cons_succ, Act.put, List.setIfInBounds_toArray, List.set_cons_zero, List.set_cons_succ]))
  (refine wpAnyH_ready (rs := [4]) (by decide +kernel) (by simp) ?_; refine AllReadyH.cons rfl (fun K hK => ?_) AllReadyH.nil; go_simp; (go_at_call 41; (with_reducible refine (CO.out _).mono ?_); rintro e w3 ⟨B2, e2, rfl, k2, hbk⟩; (with_reducible (replace HA := HA.up hbk; replace HR := HR.up hbk; replace HB := HB.up hbk; replace k1 := k1.up hbk))); (try (go_wp2_with fail)); refine hK.out _ _ ?_ (fun hHeld => ?_); (focus ((try dsimp only); (first | (with_reducible exact ⟨HA.c0, HA.c1, HA.c2⟩) | exact ⟨(((HA.far (by omega) _).far (by omega) _).far (by omega) _).c0, (((HA.far (by omega) _).far (by omega) _).far (by omega) _).c1, (((HA.far (by omega) _).far (by omega) _).far (by omega) _).c2⟩))); clear hK K; (try simp only [List.getElem_toArray, List.getElem_cons_zero, List.getElem_cons_succ, Act.put, List.setIfInBounds_toArray, List.set_cons_zero, List.set_cons_succ]))
  (refine wpAnyH_take (i := 5) (v := ?_) rfl (by decide +kernel) (by decide +kernel) (by decide +kernel) (fun _ _ _ h => h) (Or.inl ⟨by rfl, ?_⟩) (by assumption) ?_; rotate_left; (focus ((intro w hSw; (try dsimp only at hSw); go_simp); (try (with_reducible rfl)); done)); (try simp only [List.getElem_toArray, List.getElem_cons_zero, List.getElem_cons_succ, Act.put, List.setIfInBounds_toArray, List.set_cons_zero, List.set_cons_succ]))
  (refine wpAnyH_ready (rs := [6]) (by decide +kernel) (by simp) ?_; refine AllReadyH.cons rfl (fun K hK => ?_) AllReadyH.nil; go_simp; (go_at_call 47; (with_reducible refine (CM.out _ _ _ _ _ HB k1 k2).mono ?_); rintro e w4 ⟨B3, e3, B4, e4, rfl, k3, k4, hbk⟩; (with_reducible (replace HA := HA.up hbk; replace HR := HR.up hbk; replace HB := HB.up hbk)); have hr_0 := HR.c0; have hr_1 := HR.c1; have hr_2 := HR.c2; have hr_l := HR.lt; have hr_f0 := HR.f0; have hr_f1 := HR.f1; have hr_f2 := HR.f2); (try (go_wp2_with fail)); refine hK.out _ _ ?_ (fun hHeld => ?_); (focus ((try dsimp only); (first | (with_reducible exact ⟨HA.c0, HA.c1, HA.c2⟩) | exact ⟨(((HA.far (by omega) _).far (by omega) _).far (by omega) _).c0, (((HA.far (by omega) _).far (by omega) _).far (by omega) _).c1, (((HA.far (by omega) _).far (by omega) _).far (by omega) _).c2⟩))); clear hK K; (try simp only [List.getElem_toArray, List.getElem_cons_zero, List.getElem_cons_succ, Act.put, List.setIfInBounds_toArray, List.set_cons_zero, List.set_cons_succ]))
  (refine wpAnyH_ready (rs := [7]) (by decide +kernel) (by simp) ?_; refine AllReadyH.cons rfl (fun K hK => ?_) AllReadyH.nil; go_simp; refine hK.out _ _ ?_ (fun hHeld => ?_); (focus ((try dsimp only); (first | (with_reducible exact ⟨HA.c0, HA.c1, HA.c2⟩) | exact ⟨(((HA.far (by omega) _).far (by omega) _).far (by omega) _).c0, (((HA.far (by omega) _).far (by omega) _).far (by omega) _).c1, (((HA.far (by omega) _).far (by omega) _).far (by omega) _).c2⟩))); clear hK K; (try simp only [List.getElem_toArray, List.getElem_cons_zero, List.getElem_cons_succ, Act.put, List.setIfInBounds_toArray, List.set_cons_zero, List.set_cons_succ]))
  refine wpAnyH_done (by decide +kernel) ?_ _
  go_wp2_with fail
  refine bodyPost_ret (v := .agg #[.bool (decide (x.num < 0)), .slice B3 (dq x.num.natAbs) e3, .slice B4 (dq x.den) e4]) (by simp [results, Tryz.results43, go_sem, hr_0, hr_1, hr_2]) rfl ?_
  exact rqm_end k3 k4 HR HB (by omega)
theorem rto_no {scale : Int} (hn : ¬ (0 ≤ scale ∧ scale ≤ 60 ∧ 1 ≤ mode ∧ mode ≤ 7)) {n n' : Nat} : Calls Tryz.prog 14 #[.agg #[.bool b, .slice A n c, .slice A' n' c'], .int .i64 scale, .int .i64 mode] W (DTo W false false 0 0) := by
  have HB := (Bel.refl W).al (.cells #[.bool b, .slice A n c, .slice A' n' c'] 38 (0, 0))
  have HR := at_new1 W (.cells #[.bool b, .slice A n c, .slice A' n' c'] 38 (0, 0)) [.bool false, .slice none 0 0, .int .i64 0] 50
  replace HB := HB.al (.cells #[.bool false, .slice none 0 0, .int .i64 0] 50 (0, 0))
  have hr_0 := HR.c0; have hr_1 := HR.c1; have hr_2 := HR.c2; have hr_l := HR.lt; have hr_f0 := HR.f0; have hr_f1 := HR.f1; have hr_f2 := HR.f2
  clear HR
  have key : scale < 0 ∨ (¬ scale < 0 ∧ 60 < scale) ∨ (¬ scale < 0 ∧ ¬ 60 < scale ∧ mode < 1) ∨ (¬ scale < 0 ∧ ¬ 60 < scale ∧ ¬ mode < 1 ∧ 7 < mode) := by omega
  clear hn
  rcases key with k1 | ⟨k1, k2⟩ | ⟨k1, k2, k3⟩ | ⟨k1, k2, k3, k4⟩
  all_goals
    go_enter Tryz.func14, Tryz.ntmps14
    go_wp2_with fail
    refine bodyPost_ret (v := .tuple #[.agg #[.bool false, .slice none 0 0, .int .i64 0], .bool false]) (by simp [results, Tryz.results14, go_sem, hr_0, hr_1, hr_2]) rfl ?_
    refine ⟨_, _, _, _, _, rfl, (fun h => by cases h), ?_⟩
    first | exact HB | exact below3 HB (by omega) _ _ _
set_option maxHeartbeats 8000000 in
theorem rto_yes (h : Rz W b A c r.num) (h' : Rn W A' c' r.den) (hb : Bd r K) (hK : K ≤ 30) (hs : s ≤ 60) (hm : 1 ≤ mode ∧ mode ≤ 7) (hx : mkRat (r.num * ((10 ^ s : Nat) : Int)) (r.den * 1) = x) (ht : rdR mode x = t) :
    Calls Tryz.prog 14 #[.agg #[.bool b, .slice A (dq r.num.natAbs) c, .slice A' (dq r.den) c'], .int .i64 (s : Int), .int .i64 mode] W (DTo W true (decide (t < 0)) t.natAbs s) := by
  have bx := scale_bd hb hs hx
  obtain ⟨sx, hsx⟩ : ∃ u, u = decide (x.num < 0) := ⟨_, rfl⟩
  obtain ⟨sg, hsg⟩ : ∃ u, u = decide (t < 0) := ⟨_, rfl⟩
  have CS : Hid (∀ W', Bel W W' → Calls Tryz.prog 43 #[.agg #[.bool b, .slice A (dq r.num.natAbs) c, .slice A' (dq r.den) c'], .int .i64 (s : Int)] W' (RQm W' sx x.num x.den)) := fun W' hW => by rw [hsx]; exact rscaled_h (h.up hW.hid) (h'.up hW.hid) hb (by omega) hs hx
  have CI : Hid (∀ W' B e B' e', Rz W' sx B e x.num → Rn W' B' e' x.den → Calls Tryz.prog 13 #[.agg #[.bool sx, .slice B (dq x.num.natAbs) e, .slice B' (dq x.den) e'], .int .i64 mode] W' (RZv W' sg t)) := fun W' B e B' e' g1 g2 => by rw [hsg]; exact rint_doc g1 g2 bx (by omega) hm ht
  have d1 : decide ((s : Int) < 0) = false := decide_eq_false (by omega)
  have d2 : decide ((60 : Int) < (s : Int)) = false := decide_eq_false (by omega)
  have d3 : decide (mode < 1) = false := decide_eq_false (by omega)
  have d4 : decide (7 < mode) = false := decide_eq_false (by omega)
  have d2' : ¬ (60 : Int) < (s : Int) := by omega
  have d3' : ¬ mode < 1 := by omega
  have d4' : ¬ 7 < mode := by omega
  rw [← hsg]
  clear h h' hb hK hs hm hx ht bx hsx hsg
  have HB := Bel.refl W
  go_enter Tryz.func14, Tryz.ntmps14
  have z0 := at_new0 W [.bool b, .slice A (dq r.num.natAbs) c, .slice A' (dq r.den) c'] 38
  clear z0
  obtain ⟨W0, hW0⟩ : ∃ X, X = (W.alloc (.cells #[.bool b, .slice A (dq r.num.natAbs) c, .slice A' (dq r.den) c'] 38)).alloc (.cells #[.bool false, .slice none 0 0, .int .i64 0] 50) := ⟨_, rfl⟩
  have HA : At W0 W.heap.size [.bool b, .slice A (dq r.num.natAbs) c, .slice A' (dq r.den) c'] := by rw [hW0]; exact (at_new0 _ _ _).al _
  have HR : At W0 (W.heap.size + 1) [.bool false, .slice none 0 0, .int .i64 0] := by rw [hW0]; exact at_new1 _ _ _ _
  have HZ : Ez W0 (W.heap.size + 1) := by
    rw [hW0]
    have h9 := ez_newT (W.alloc (.cells #[.bool b, .slice A (dq r.num.natAbs) c, .slice A' (dq r.den) c'] 38)) (.bool false) (.slice none 0 0) (.int .i64 0) 50
    rwa [show (W.alloc (.cells #[.bool b, .slice A (dq r.num.natAbs) c, .slice A' (dq r.den) c'] 38)).heap.size = W.heap.size + 1 by simp] at h9
  replace HB : Bel W W0 := by rw [hW0]; exact (HB.al _).al _
  have HW0 := hide hW0
  clear hW0
  have ha_0 := HA.c0
  have ha_1 := HA.c1
  have ha_2 := HA.c2
  have ha_l := HA.lt
  go_upto_region 3 with fail
  rw [← HW0.out]
  clear HW0
  go_wp2_with (first | (go_at_call 43; (with_reducible refine (CS.out _ HB).mono ?_); rintro e w1 ⟨B1, e1, B2, e2, rfl, k1, k2, hbk⟩; (with_reducible (replace HA := HA.up hbk; replace HR := HR.up hbk; replace HZ := HZ.up hbk; replace HB := HB.up hbk)); clear ha_0 ha_1 ha_2 ha_l) | (go_at_call 13; (with_reducible refine (CI.out _ _ _ _ _ k1 k2).mono ?_); rintro e w2 ⟨B3, e3, rfl, k3, hbk⟩; (with_reducible (replace HR := HR.up hbk; replace HZ := HZ.up hbk; replace HB := HB.up hbk)); have hr_0 := HR.c0; have hr_1 := HR.c1; have hr_2 := HR.c2; have hr_l := HR.lt; have hr_f0 := HR.f0; have hr_f1 := HR.f1; have hr_f2 := HR.f2) | fail)
  refine name_end ?_
  intro W4 hW4
  have HF : At W4 (W.heap.size + 1) [.bool sg, .slice B3 (dq t.natAbs) e3, .int .i64 (s : Int)] := by rw [hW4]; exact (HR.put3 _ _ _).al _
  have NF : Rn W4 B3 e3 t.natAbs := by rw [hW4]; exact (rn_dbox k3.1 hr_0 hr_1 hr_2 HZ.2 _ _ _ _ _).al _
  have BF : Bel W W4 := by rw [hW4]; exact Bel.al (below3 HB (by omega) _ _ _) _
  clear hW4 hr_0 hr_1 hr_2 hr_l hr_f0 hr_f1 hr_f2
  have hr_0 := HF.c0
  have hr_1 := HF.c1
  have hr_2 := HF.c2
  refine bodyPost_ret (v := .tuple #[.agg #[.bool sg, .slice B3 (dq t.natAbs) e3, .int .i64 (s : Int)], .bool true]) (by simp [results, Tryz.results14, go_sem, hr_0, hr_1, hr_2]) rfl ?_
  exact ⟨_, _, _, _, _, rfl, fun _ => ⟨rfl, rfl, rfl, NF⟩, BF⟩
end
end Go.Proofs.YtmiklffjffdkgaaGreatDoor
end

section
/- The document's own Step. Conditions: terms of at most 30 words. -/
open Go.RowKit
set_option maxRecDepth 100000
namespace Go.Proofs.YtmiklffjffdkgaaGreatDoor
section
variable {W : World} {b : Bool} {A A' D : Option Addr} {c c' e2 K s m2 : Nat} {r x y : Rat} {mode t : Int}
theorem step_mul (hm : 0 < m2) (hy : mkRat (m2 : Int) (10 ^ s) = y) : mkRat (r.num * (y.den : Int)) (r.den * y.num.natAbs) = r * mkRat ((10 ^ s : Nat) : Int) m2 := by
  have hp : 0 < 10 ^ s := Nat.pow_pos (by decide)
  have hc := mk_cross (z := (m2 : Int)) (d := 10 ^ s) hp
  rw [hy] at hc
  have hpos : 0 < y.num := by
    have h1 := sign_mk (z := (m2 : Int)) (d := 10 ^ s) hp
    rw [hy, Int.sign_eq_one_of_pos (show (0 : Int) < (m2 : Int) by omega)] at h1
    exact Int.sign_eq_one_iff_pos.1 h1
  have hn : (y.num.natAbs : Int) = y.num := Int.natAbs_of_nonneg (by omega)
  have hr := r.den_pos
  conv => rhs; rw [← Rat.mkRat_self r]
  rw [Rat.mkRat_mul_mkRat, Rat.mkRat_eq_iff (Nat.mul_ne_zero (by omega) (by omega)) (Nat.mul_ne_zero (by omega) (by omega))]
  rw [Int.natCast_mul, Int.natCast_mul, hn]
  have e1 : (y.den : Int) * (m2 : Int) = ((10 ^ s : Nat) : Int) * y.num := by rw [Int.mul_comm, ← hc, Int.mul_comm]
  calc r.num * (y.den : Int) * ((r.den : Int) * (m2 : Int)) = r.num * (r.den : Int) * ((y.den : Int) * (m2 : Int)) := by ac_rfl
    _ = r.num * (r.den : Int) * (((10 ^ s : Nat) : Int) * y.num) := by rw [e1]
    _ = r.num * ((10 ^ s : Nat) : Int) * ((r.den : Int) * y.num) := by ac_rfl
theorem rstep_no {sn : Bool} {k : Int} {n n' n2 : Nat} (hn : ¬ (sn = false ∧ 0 < n2 ∧ 1 ≤ mode ∧ mode ≤ 7)) : Calls Tryz.prog 17 #[.agg #[.bool b, .slice A n c, .slice A' n' c'], .agg #[.bool sn, .slice D n2 e2, .int .i64 k], .int .i64 mode] W (DTo W false false 0 0) := by
  obtain ⟨W0, hW0⟩ : ∃ X, X = ((W.alloc (.cells #[.bool b, .slice A n c, .slice A' n' c'] 38)).alloc (.cells #[.bool sn, .slice D n2 e2, .int .i64 k] 50)).alloc (.cells #[.bool false, .slice none 0 0, .int .i64 0] 50) := ⟨_, rfl⟩
  have HB : Bel W W0 := by rw [hW0]; exact (((Bel.refl W).al _).al _).al _
  have HA : At W0 (W.heap.size + 1) [.bool sn, .slice D n2 e2, .int .i64 k] := by rw [hW0]; exact (at_new1 _ _ _ _).al _
  have HR : At W0 (W.heap.size + 1 + 1) [.bool false, .slice none 0 0, .int .i64 0] := by rw [hW0]; exact at_new2 _ _ _ _ _
  have HW0 := hide hW0
  clear hW0
  have ha_0 := HA.c0; have ha_1 := HA.c1; have ha_l := HA.lt
  have hr_0 := HR.c0; have hr_1 := HR.c1; have hr_2 := HR.c2; have hr_l := HR.lt; have hr_f0 := HR.f0; have hr_f1 := HR.f1; have hr_f2 := HR.f2
  have key : sn = true ∨ (sn = false ∧ n2 = 0) ∨ (sn = false ∧ ¬ n2 = 0 ∧ mode < 1) ∨ (sn = false ∧ ¬ n2 = 0 ∧ ¬ mode < 1 ∧ 7 < mode) := by
    cases sn
    · by_cases h0 : n2 = 0
      · exact .inr (.inl ⟨rfl, h0⟩)
      · by_cases h1 : mode < 1
        · exact .inr (.inr (.inl ⟨rfl, h0, h1⟩))
        · by_cases h2 : 7 < mode
          · exact .inr (.inr (.inr ⟨rfl, h0, h1, h2⟩))
          · exact absurd ⟨rfl, by omega, by omega, by omega⟩ hn
    · exact .inl rfl
  clear hn
  rcases key with k1 | ⟨k1, k2⟩ | ⟨k1, k2, k3⟩ | ⟨k1, k2, k3, k4⟩
  all_goals
    subst k1
    try subst k2
    try (have k2' : ((n2 : Int) == 0) = false := by
          cases hq : ((n2 : Int) == 0) with
          | false => rfl
          | true => have h9 : (n2 : Int) = 0 := by simpa using hq
                    omega)
    go_enter Tryz.func17, Tryz.ntmps17
    go_upto_region 1 with fail
    rw [← HW0.out]
    go_wp2_with fail
    refine bodyPost_ret (v := .tuple #[.agg #[.bool false, .slice none 0 0, .int .i64 0], .bool false]) (by simp [results, Tryz.results17, go_sem, hr_0, hr_1, hr_2]) rfl ?_
    refine ⟨_, _, _, _, _, rfl, (fun h => by cases h), ?_⟩
    first | exact HB | exact below3 HB (by omega) _ _ _
set_option maxHeartbeats 16000000 in
theorem rstep_yes {v : Nat} (h : Rz W b A c r.num) (h' : Rn W A' c' r.den) (hd : Rn W D e2 m2) (hb : Bd r K) (bm : m2 < W32 ^ K) (hK : 1 ≤ K ∧ K ≤ 15) (h0 : 0 < m2) (hs : s ≤ 60) (hm : 1 ≤ mode ∧ mode ≤ 7) (ht : rdR mode (r * mkRat ((10 ^ s : Nat) : Int) m2) = t) (hv : t.natAbs * m2 = v) :
    Calls Tryz.prog 17 #[.agg #[.bool b, .slice A (dq r.num.natAbs) c, .slice A' (dq r.den) c'], .agg #[.bool false, .slice D (dq m2) e2, .int .i64 (s : Int)], .int .i64 mode] W (DTo W true (decide (t < 0)) v s) := by
  obtain ⟨y, hy⟩ : ∃ y, mkRat (m2 : Int) (10 ^ s) = y := ⟨_, rfl⟩
  obtain ⟨x, hx⟩ : ∃ x, r * mkRat ((10 ^ s : Nat) : Int) m2 = x := ⟨_, rfl⟩
  rw [hx] at ht
  have hp : 0 < 10 ^ s := Nat.pow_pos (by decide)
  have hxm := (step_mul (r := r) h0 hy).trans hx
  have pb : 10 ^ s < W32 ^ 61 := Nat.lt_of_lt_of_le (ten_w s) (Nat.pow_le_pow_right (by decide) (by omega))
  have by_ : y.num.natAbs < W32 ^ K ∧ y.den < W32 ^ 61 := by
    obtain ⟨g1, g2, g3, _⟩ := low_terms (z := (m2 : Int)) (d := 10 ^ s) hp rfl
    rw [hy] at g2 g3
    exact ⟨by rw [g2]; exact Nat.lt_of_le_of_lt (Nat.div_le_self _ _) (by simpa using bm), by rw [g3]; exact Nat.lt_of_le_of_lt (Nat.div_le_self _ _) pb⟩
  have ypos : 0 < y.num := by
    have h1 := sign_mk (z := (m2 : Int)) (d := 10 ^ s) hp
    rw [hy, Int.sign_eq_one_of_pos (show (0 : Int) < (m2 : Int) by omega)] at h1
    exact Int.sign_eq_one_iff_pos.1 h1
  have bx : Bd x (K + 61) := by
    rw [← hx, ← Rat.mkRat_self r, mul_mk]
    exact tt_bd ⟨Nat.mul_pos r.den_pos h0, rfl, by rw [Int.natAbs_mul, Int.natAbs_natCast, Nat.pow_add]; exact Nat.mul_lt_mul'' hb.1 pb, w32_le (i := K + K) (by rw [Nat.pow_add]; exact Nat.mul_lt_mul'' hb.2 bm) (by omega)⟩
  have tb : t.natAbs < W32 ^ (K + 62) := by
    have h1 := (rd_near (m := mode) (p := x.num) (q := x.den) x.den_pos).1
    have h2 := (rd_near (m := mode) (p := x.num) (q := x.den) x.den_pos).2.1
    have h3 : rdZ mode x.num x.den = t := ht
    rw [h3] at h1 h2
    have h4 := x.den_pos
    have h5 : t.natAbs ≤ x.num.natAbs + 1 := by
      rcases Int.lt_or_le t 0 with h6 | h6
      · have h7 : t * (x.den : Int) ≤ t * 1 := Int.mul_le_mul_of_nonpos_left (by omega) (by omega)
        by_cases h8 : x.den = 1
        · rw [h8] at h1 h2; omega
        · have h9 : t * (x.den : Int) = (t + 1) * (x.den : Int) - (x.den : Int) := by rw [Int.add_mul]; omega
          have h10 : (t + 1) * (x.den : Int) ≤ (t + 1) * 1 := Int.mul_le_mul_of_nonpos_left (by omega) (by omega)
          omega
      · have h9 : t * (x.den : Int) = (t - 1) * (x.den : Int) + (x.den : Int) := by rw [Int.sub_mul]; omega
        rcases Int.lt_or_le t 1 with h10 | h10
        · omega
        · have h11 : (t - 1) * 1 ≤ (t - 1) * (x.den : Int) := Int.mul_le_mul_of_nonneg_left (by omega) (by omega)
          omega
    have h12 : x.num.natAbs + 1 < W32 ^ (K + 61) + W32 ^ (K + 61) := by have := bx.1; have := Nat.pow_pos (n := K + 61) (show 0 < W32 by decide); omega
    have h13 : W32 ^ (K + 61) + W32 ^ (K + 61) ≤ W32 ^ (K + 62) := by
      rw [show K + 62 = (K + 61) + 1 from rfl, Nat.pow_succ W32 (K + 61)]
      have : 2 ≤ W32 := by decide
      have := Nat.mul_le_mul_left (W32 ^ (K + 61)) this
      omega
    omega
  obtain ⟨sx, hsx⟩ : ∃ u, u = decide (x.num < 0) := ⟨_, rfl⟩
  obtain ⟨sg, hsg⟩ : ∃ u, u = decide (t < 0) := ⟨_, rfl⟩
  obtain ⟨yd, hyd⟩ : ∃ u : Int, u = (y.den : Int) := ⟨_, rfl⟩
  have CR : Hid (∀ W', Bel W W' → Calls Tryz.prog 52 #[.agg #[.bool false, .slice D (dq m2) e2, .int .i64 (s : Int)]] W' (RQm W' false y.num y.den)) := fun W' hW => by
    have h9 := rdrat_h (W := W') (A := D) (c := e2) (b := false) (s := s) (z := (m2 : Int)) (t := false) (r := y) (by rw [Int.natAbs_natCast]; exact hd.up hW.hid) rfl (by simp [zi]) (by rw [Int.natAbs_natCast]; have := dq_words bm; omega) (by omega) hy
    rw [Int.natAbs_natCast, decide_eq_false (by omega)] at h9
    exact h9
  have CV : Hid (∀ W' B e B' e', Rz W' false B e y.num → Rn W' B' e' y.den → Calls Tryz.prog 48 #[.agg #[.bool false, .slice B (dq y.num.natAbs) e, .slice B' (dq y.den) e']] W' (RQm W' false yd y.num.natAbs)) := fun W' B e B' e' g1 g2 =>
    rqinv_h g1 g2 rfl (by rw [hyd, Int.natAbs_natCast]) (by rw [hyd, decide_eq_false (by omega)])
  have CM : Hid (∀ W' B e B' e', Bel W W' → Rz W' false B e yd → Rn W' B' e' y.num.natAbs → Calls Tryz.prog 47 #[.agg #[.bool b, .slice A (dq r.num.natAbs) c, .slice A' (dq r.den) c'], .agg #[.bool false, .slice B (dq yd.natAbs) e, .slice B' (dq y.num.natAbs) e']] W' (RQm W' sx x.num x.den)) := fun W' B e B' e' hW g1 g2 => by
    have l1 := dq_words hb.1
    have l2 := dq_words hb.2
    have l3 := dq_words by_.1
    have l4 := dq_words by_.2
    have e9 : yd.natAbs = y.den := by rw [hyd, Int.natAbs_natCast]
    rw [hsx]
    exact rqmul_h (r := x) (h.up hW.hid) (h'.up hW.hid) g1 g2 r.den_pos (by omega) (by omega) (by omega) (by rw [e9]; omega) (by omega) (by rw [Int.natAbs_mul, e9]; exact Nat.le_trans (dq_words (k := K + 61) (by rw [Nat.pow_add]; exact Nat.mul_lt_mul'' hb.1 by_.2)) (by omega)) (Nat.le_trans (dq_words (k := K + K) (by rw [Nat.pow_add]; exact Nat.mul_lt_mul'' hb.2 by_.1)) (by omega)) (by rw [hyd]; exact hxm)
  have CI : Hid (∀ W' B e B' e', Rz W' sx B e x.num → Rn W' B' e' x.den → Calls Tryz.prog 13 #[.agg #[.bool sx, .slice B (dq x.num.natAbs) e, .slice B' (dq x.den) e'], .int .i64 mode] W' (RZv W' sg t)) := fun W' B e B' e' g1 g2 => by rw [hsg]; exact rint_doc g1 g2 bx (by omega) hm ht
  have CP : Hid (∀ W' B e, Bel W W' → Rz W' sg B e t → Calls Tryz.prog 49 #[.slice B (dq t.natAbs) e, .slice D (dq m2) e2] W' (RefRz W' v)) := fun W' B e hW g1 => by
    rw [← hv]
    have l1 := dq_words tb
    have l2 := dq_words bm
    exact rMul_any g1.1 (hd.up hW.hid) (by omega) (by omega)
  have k0 : ((dq m2 : Int) == 0) = false := by
    have h9 := dq_pos.2 h0
    cases hq : ((dq m2 : Int) == 0) with
    | false => rfl
    | true => have h10 : (dq m2 : Int) = 0 := by simpa using hq
              omega
  have k0' : ¬ dq m2 = 0 := by have := dq_pos.2 h0; omega
  have d3 : decide (mode < 1) = false := decide_eq_false (by omega)
  have d4 : decide (7 < mode) = false := decide_eq_false (by omega)
  have d3' : ¬ mode < 1 := by omega
  have d4' : ¬ 7 < mode := by omega
  rw [← hsg]
  clear h h' hd hb bm hK h0 hs hm ht hv hy hx hp hxm pb by_ ypos bx tb hsx hsg hyd
  obtain ⟨W0, hW0⟩ : ∃ X, X = ((W.alloc (.cells #[.bool b, .slice A (dq r.num.natAbs) c, .slice A' (dq r.den) c'] 38)).alloc (.cells #[.bool false, .slice D (dq m2) e2, .int .i64 (s : Int)] 50)).alloc (.cells #[.bool false, .slice none 0 0, .int .i64 0] 50) := ⟨_, rfl⟩
  have HB : Bel W W0 := by rw [hW0]; exact (((Bel.refl W).al _).al _).al _
  have HA : At W0 W.heap.size [.bool b, .slice A (dq r.num.natAbs) c, .slice A' (dq r.den) c'] := by rw [hW0]; exact ((at_new0 _ _ _).al _).al _
  have HS : At W0 (W.heap.size + 1) [.bool false, .slice D (dq m2) e2, .int .i64 (s : Int)] := by rw [hW0]; exact (at_new1 _ _ _ _).al _
  have HR : At W0 (W.heap.size + 1 + 1) [.bool false, .slice none 0 0, .int .i64 0] := by rw [hW0]; exact at_new2 _ _ _ _ _
  have HZ : Ez W0 (W.heap.size + 1 + 1) := by
    rw [hW0]
    have h9 := ez_newT ((W.alloc (.cells #[.bool b, .slice A (dq r.num.natAbs) c, .slice A' (dq r.den) c'] 38)).alloc (.cells #[.bool false, .slice D (dq m2) e2, .int .i64 (s : Int)] 50)) (.bool false) (.slice none 0 0) (.int .i64 0) 50
    rwa [show ((W.alloc (.cells #[.bool b, .slice A (dq r.num.natAbs) c, .slice A' (dq r.den) c'] 38)).alloc (.cells #[.bool false, .slice D (dq m2) e2, .int .i64 (s : Int)] 50)).heap.size = W.heap.size + 1 + 1 by simp] at h9
  have HW0 := hide hW0
  clear hW0
  have hs_0 := HS.c0; have hs_1 := HS.c1; have hs_l := HS.lt
  go_enter Tryz.func17, Tryz.ntmps17
  go_upto_region 1 with fail
  rw [← HW0.out]
  go_upto_region 3 with fail
  clear hs_0 hs_1 hs_l HW0 k0 k0' d3 d4 d3' d4'
  go_cut [8] from 26 to 32 (fun u w' => ∃ pn G g, u = .pointer (some ⟨pn, 0, none⟩) ∧ W0.heap.size ≤ pn ∧ At w' pn [.bool sg, .slice G (dq t.natAbs) g] ∧ Rz w' sg G g t ∧ Bel W0 w')
  case first =>
    have HW := Bel.refl W0
    have la := HA.lt
    have ls := HS.lt
    go_region_held3 (fun w' => w'.cell? ⟨W.heap.size, 0, none⟩ = some (.bool b) ∧ w'.cell? ⟨W.heap.size, 1, none⟩ = some (.slice A (dq r.num.natAbs) c) ∧ w'.cell? ⟨W.heap.size, 2, none⟩ = some (.slice A' (dq r.den) c') ∧ w'.cell? ⟨W.heap.size + 1, 0, none⟩ = some (.bool false) ∧ w'.cell? ⟨W.heap.size + 1, 1, none⟩ = some (.slice D (dq m2) e2) ∧ w'.cell? ⟨W.heap.size + 1, 2, none⟩ = some (.int .i64 (s : Int)))
      (refine ⟨(?_ : At _ W.heap.size [.bool b, .slice A (dq r.num.natAbs) c, .slice A' (dq r.den) c']).c0, (?_ : At _ W.heap.size [.bool b, .slice A (dq r.num.natAbs) c, .slice A' (dq r.den) c']).c1, (?_ : At _ W.heap.size [.bool b, .slice A (dq r.num.natAbs) c, .slice A' (dq r.den) c']).c2, (?_ : At _ (W.heap.size + 1) [.bool false, .slice D (dq m2) e2, .int .i64 (s : Int)]).c0, (?_ : At _ (W.heap.size + 1) [.bool false, .slice D (dq m2) e2, .int .i64 (s : Int)]).c1, (?_ : At _ (W.heap.size + 1) [.bool false, .slice D (dq m2) e2, .int .i64 (s : Int)]).c2⟩ <;> (repeat (first | with_reducible exact HA | with_reducible exact HS | (with_reducible refine At.dr ?_) | (with_reducible refine At.al ?_ _) | (with_reducible refine At.far ?_ (by omega) _))))
      (first | (go_at_call 52; (with_reducible refine (CR.out _ HB.dr).mono ?_); rintro e w1 ⟨B1, i1, B2, i2, rfl, k1, k2, hbk⟩; (with_reducible (replace HB := HB.dr.up hbk; replace HW := HW.dr.up hbk; replace HA := HA.dr.up hbk; replace HS := HS.dr.up hbk)); have lz0 := HA.lt; have lz1 := HS.lt; have zs1 := Below.size HW; (try have lq0 := HP0.lt); (try have lq1 := HQ0.lt); (try have lq2 := HM0.lt); (try have lq3 := HN0.lt)) | (go_at_call 52; (with_reducible refine (CR.out _ (HB.al _).dr).mono ?_); rintro e w1 ⟨B1, i1, B2, i2, rfl, k1, k2, hbk⟩; (with_reducible (have HP0 := At.up (at_new0 _ [.bool false, .slice none 0 0] _).dr hbk; replace HB := (HB.al _).dr.up hbk; replace HW := (HW.al _).dr.up hbk; replace HA := (HA.al _).dr.up hbk; replace HS := (HS.al _).dr.up hbk)); have lz0 := HA.lt; have lz1 := HS.lt; have zs1 := Below.size HW; (try have lq0 := HP0.lt); (try have lq1 := HQ0.lt); (try have lq2 := HM0.lt); (try have lq3 := HN0.lt)) | (go_at_call 48; (with_reducible refine (CV.out _ _ _ _ _ k1 k2).mono ?_); rintro e w2 ⟨B3, i3, B4, i4, rfl, k3, k4, hbk⟩; (with_reducible (replace HB := HB.up hbk; replace HW := HW.up hbk; replace HA := HA.up hbk; replace HS := HS.up hbk)); (try (with_reducible replace HP0 := HP0.up hbk)); have lz0 := HA.lt; have lz1 := HS.lt; have zs1 := Below.size HW; (try have lq0 := HP0.lt); (try have lq1 := HQ0.lt); (try have lq2 := HM0.lt); (try have lq3 := HN0.lt)) | (go_at_call 48; (with_reducible refine (CV.out _ _ _ _ _ (k1.al _) (k2.al _)).mono ?_); rintro e w2 ⟨B3, i3, B4, i4, rfl, k3, k4, hbk⟩; (with_reducible (have HQ0 := At.up (at_new0 _ [.bool false, .slice none 0 0] _) hbk; replace HB := (HB.al _).up hbk; replace HW := (HW.al _).up hbk; replace HA := (HA.al _).up hbk; replace HS := (HS.al _).up hbk)); (try (with_reducible replace HP0 := (HP0.al _).up hbk)); have lz0 := HA.lt; have lz1 := HS.lt; have zs1 := Below.size HW; (try have lq0 := HP0.lt); (try have lq1 := HQ0.lt); (try have lq2 := HM0.lt); (try have lq3 := HN0.lt)) | (go_at_call 47; (with_reducible refine (CM.out _ _ _ _ _ HB k3 k4).mono ?_); rintro e w3 ⟨B5, i5, B6, i6, rfl, k5, k6, hbk⟩; (with_reducible (replace HB := HB.up hbk; replace HW := HW.up hbk; replace HA := HA.up hbk; replace HS := HS.up hbk)); (try (with_reducible replace HP0 := HP0.up hbk)); (try (with_reducible replace HQ0 := HQ0.up hbk)); have lz0 := HA.lt; have lz1 := HS.lt; have zs1 := Below.size HW; (try have lq0 := HP0.lt); (try have lq1 := HQ0.lt); (try have lq2 := HM0.lt); (try have lq3 := HN0.lt)) | (go_at_call 47; (with_reducible refine (CM.out _ _ _ _ _ (HB.al _) (k3.al _) (k4.al _)).mono ?_); rintro e w3 ⟨B5, i5, B6, i6, rfl, k5, k6, hbk⟩; (with_reducible (have HM0 := At.up (at_new0 _ [.bool false, .slice none 0 0] _) hbk; replace HB := (HB.al _).up hbk; replace HW := (HW.al _).up hbk; replace HA := (HA.al _).up hbk; replace HS := (HS.al _).up hbk)); (try (with_reducible replace HP0 := (HP0.al _).up hbk)); (try (with_reducible replace HQ0 := (HQ0.al _).up hbk)); have lz0 := HA.lt; have lz1 := HS.lt; have zs1 := Below.size HW; (try have lq0 := HP0.lt); (try have lq1 := HQ0.lt); (try have lq2 := HM0.lt); (try have lq3 := HN0.lt)) | (go_at_call 13; (with_reducible refine (CI.out _ _ _ _ _ k5 k6).mono ?_); rintro e w4 ⟨G, g, rfl, kz, hbk⟩; (with_reducible (replace HB := HB.up hbk; replace HW := HW.up hbk; replace HA := HA.up hbk; replace HS := HS.up hbk)); (try (with_reducible replace HP0 := HP0.up hbk)); (try (with_reducible replace HQ0 := HQ0.up hbk)); (try (with_reducible replace HM0 := HM0.up hbk)); (try have hp0_0 := HP0.c0); (try have hp0_1 := HP0.c1); (try have hq0_0 := HQ0.c0); (try have hq0_1 := HQ0.c1); (try have hm0_0 := HM0.c0); (try have hm0_1 := HM0.c1); (try have hn0_0 := HN0.c0); (try have hn0_1 := HN0.c1); (try have fhp0_0 := HP0.f0); (try have fhp0_1 := HP0.f1); (try have fhq0_0 := HQ0.f0); (try have fhq0_1 := HQ0.f1); (try have fhm0_0 := HM0.f0); (try have fhm0_1 := HM0.f1); (try have fhn0_0 := HN0.f0); (try have fhn0_1 := HN0.f1); (try have lhp0 := HP0.lt); (try have lhq0 := HQ0.lt); (try have lhm0 := HM0.lt); (try have lhn0 := HN0.lt); have lz0 := HA.lt; have lz1 := HS.lt; have zs1 := Below.size HW; (try have lq0 := HP0.lt); (try have lq1 := HQ0.lt); (try have lq2 := HM0.lt); (try have lq3 := HN0.lt)) | (go_at_call 13; (with_reducible refine (CI.out _ _ _ _ _ (k5.al _) (k6.al _)).mono ?_); rintro e w4 ⟨G, g, rfl, kz, hbk⟩; (with_reducible (have HN0 := At.up (at_new0 _ [.bool false, .slice none 0 0] _) hbk; replace HB := (HB.al _).up hbk; replace HW := (HW.al _).up hbk; replace HA := (HA.al _).up hbk; replace HS := (HS.al _).up hbk)); (try (with_reducible replace HP0 := (HP0.al _).up hbk)); (try (with_reducible replace HQ0 := (HQ0.al _).up hbk)); (try (with_reducible replace HM0 := (HM0.al _).up hbk)); (try have hp0_0 := HP0.c0); (try have hp0_1 := HP0.c1); (try have hq0_0 := HQ0.c0); (try have hq0_1 := HQ0.c1); (try have hm0_0 := HM0.c0); (try have hm0_1 := HM0.c1); (try have hn0_0 := HN0.c0); (try have hn0_1 := HN0.c1); (try have fhp0_0 := HP0.f0); (try have fhp0_1 := HP0.f1); (try have fhq0_0 := HQ0.f0); (try have fhq0_1 := HQ0.f1); (try have fhm0_0 := HM0.f0); (try have fhm0_1 := HM0.f1); (try have fhn0_0 := HN0.f0); (try have fhn0_1 := HN0.f1); (try have lhp0 := HP0.lt); (try have lhq0 := HQ0.lt); (try have lhm0 := HM0.lt); (try have lhn0 := HN0.lt); have lz0 := HA.lt; have lz1 := HS.lt; have zs1 := Below.size HW; (try have lq0 := HP0.lt); (try have lq1 := HQ0.lt); (try have lq2 := HM0.lt); (try have lq3 := HN0.lt)) | fail)
    all_goals
      go_wp2_with fail
      go_meet
      case rel =>
        refine ⟨_, G, g, rfl, by first | omega | exact Nat.le_refl _, ?_, ?_, ?_⟩ <;> (repeat (first | with_reducible exact kz | with_reducible exact HW | with_reducible exact HP0 | with_reducible exact HQ0 | with_reducible exact HM0 | with_reducible exact HN0 | with_reducible exact at_new0 _ _ _ | with_reducible exact at_newZ _ _ _ _ _ | (with_reducible refine Bel.dr ?_) | (with_reducible refine Bel.al ?_ _) | (with_reducible refine Bel.put2 ?_ (by omega) _ _) | (with_reducible refine Rz.dr ?_) | (with_reducible refine Rz.al ?_ _) | (with_reducible refine Rz.put2 ?_ ?_ _ _ _ _) | (with_reducible refine At.dr ?_) | (with_reducible refine At.al ?_ _) | (with_reducible refine At.put2 (v0 := .bool false) (v1 := .slice none 0 0) ?_ _ _)))
  case rest =>
    obtain ⟨pn, G, g, rfl, hpn, HN, kz, hW⟩ := hcut
    have lr := HR.lt
    replace HB := HB.up hW.hid
    replace HA := HA.up hW.hid
    replace HS := HS.up hW.hid
    replace HR := HR.up hW.hid
    replace HZ := HZ.up hW.hid
    clear hW CR CV CM CI
    obtain ⟨W1, hW1⟩ : ∃ X, X = wc := ⟨_, rfl⟩
    subst hW1
    go_upto_region 4 with fail
    replace HB := HB.dr
    replace HS := HS.dr
    replace HR := HR.dr
    replace HZ := HZ.dr
    replace HN := HN.dr
    replace kz := kz.dr
    refine wp_region_held_drew (S := fun w' => w'.cell? ⟨pn, 0, none⟩ = some (.bool sg) ∧ w'.cell? ⟨pn, 1, none⟩ = some (.slice G (dq t.natAbs) g) ∧ w'.cell? ⟨W.heap.size + 1, 0, none⟩ = some (.bool false) ∧ w'.cell? ⟨W.heap.size + 1, 1, none⟩ = some (.slice D (dq m2) e2) ∧ w'.cell? ⟨W.heap.size + 1, 2, none⟩ = some (.int .i64 (s : Int))) (by kernel_rfl) ?_ (fun hHeld => ?_)
    · exact ⟨HN.c0, HN.c1, HS.c0, HS.c1, HS.c2⟩
    generalize W1.drew = Wd at *
    (refine wpAnyH_take (i := 0) (v := ?_) rfl (by decide +kernel) (by decide +kernel) (by decide +kernel) (fun _ _ _ h => h) (Or.inl ⟨by rfl, ?_⟩) (by assumption) ?_; rotate_left; (focus ((intro w hSw; (try dsimp only at hSw); go_simp); (try (with_reducible rfl)); done)); (try simp only [List.getElem_toArray, List.getElem_cons_zero, List.getElem_cons_succ, Act.put, List.setIfInBounds_toArray, List.set_cons_zero, List.set_cons_succ]))
    (refine wpAnyH_take (i := 1) (v := ?_) rfl (by decide +kernel) (by decide +kernel) (by decide +kernel) (fun _ _ _ h => h) (Or.inl ⟨by rfl, ?_⟩) (by assumption) ?_; rotate_left; (focus ((intro w hSw; (try dsimp only at hSw); go_simp); (try (with_reducible rfl)); done)); (try simp only [List.getElem_toArray, List.getElem_cons_zero, List.getElem_cons_succ, Act.put, List.setIfInBounds_toArray, List.set_cons_zero, List.set_cons_succ]))
    (refine wpAnyH_take (i := 2) (v := ?_) rfl (by decide +kernel) (by decide +kernel) (by decide +kernel) (fun _ _ _ h => h) (Or.inl ⟨by rfl, ?_⟩) (by assumption) ?_; rotate_left; (focus ((intro w hSw; (try dsimp only at hSw); go_simp); (try (with_reducible rfl)); done)); (try simp only [List.getElem_toArray, List.getElem_cons_zero, List.getElem_cons_succ, Act.put, List.setIfInBounds_toArray, List.set_cons_zero, List.set_cons_succ]))
    (refine wpAnyH_take (i := 3) (v := ?_) rfl (by decide +kernel) (by decide +kernel) (by decide +kernel) (fun _ _ _ h => h) (Or.inl ⟨by rfl, ?_⟩) (by assumption) ?_; rotate_left; (focus ((intro w hSw; (try dsimp only at hSw); go_simp); (try (with_reducible rfl)); done)); (try simp only [List.getElem_toArray, List.getElem_cons_zero, List.getElem_cons_succ, Act.put, List.setIfInBounds_toArray, List.set_cons_zero, List.set_cons_succ]))
    (refine wpAnyH_take (i := 4) (v := ?_) rfl (by decide +kernel) (by decide +kernel) (by decide +kernel) (fun _ _ _ h => h) (Or.inl ⟨by rfl, ?_⟩) (by assumption) ?_; rotate_left; (focus ((intro w hSw; (try dsimp only at hSw); go_simp); (try (with_reducible rfl)); done)); (try simp only [List.getElem_toArray, List.getElem_cons_zero, List.getElem_cons_succ, Act.put, List.setIfInBounds_toArray, List.set_cons_zero, List.set_cons_succ]))
    (refine wpAnyH_take (i := 5) (v := ?_) rfl (by decide +kernel) (by decide +kernel) (by decide +kernel) (fun _ _ _ h => h) (Or.inl ⟨by rfl, ?_⟩) (by assumption) ?_; rotate_left; (focus ((intro w hSw; (try dsimp only at hSw); go_simp); (try (with_reducible rfl)); done)); (try simp only [List.getElem_toArray, List.getElem_cons_zero, List.getElem_cons_succ, Act.put, List.setIfInBounds_toArray, List.set_cons_zero, List.set_cons_succ]))
    (refine wpAnyH_take (i := 7) (v := ?_) rfl (by decide +kernel) (by decide +kernel) (by decide +kernel) (fun _ _ _ h => h) (Or.inl ⟨by rfl, ?_⟩) (by assumption) ?_; rotate_left; (focus ((intro w hSw; (try dsimp only at hSw); go_simp); (try (with_reducible rfl)); done)); (try simp only [List.getElem_toArray, List.getElem_cons_zero, List.getElem_cons_succ, Act.put, List.setIfInBounds_toArray, List.set_cons_zero, List.set_cons_succ]))
    (refine wpAnyH_take (i := 8) (v := ?_) rfl (by decide +kernel) (by decide +kernel) (by decide +kernel) (fun _ _ _ h => h) (Or.inl ⟨by rfl, ?_⟩) (by assumption) ?_; rotate_left; (focus ((intro w hSw; (try dsimp only at hSw); go_simp); (try (with_reducible rfl)); done)); (try simp only [List.getElem_toArray, List.getElem_cons_zero, List.getElem_cons_succ, Act.put, List.setIfInBounds_toArray, List.set_cons_zero, List.set_cons_succ]))
    (refine wpAnyH_ready (rs := [6]) (by decide +kernel) (by simp) ?_; refine AllReadyH.cons rfl (fun K hK => ?_) AllReadyH.nil; go_simp; (go_at_call 49; (with_reducible refine (CP.out _ _ _ HB kz).mono ?_); rintro e w6 ⟨J, j, rfl, rn, hbk⟩; (with_reducible (replace HB := HB.up hbk; replace HS := HS.up hbk; replace HR := HR.up hbk; replace HZ := HZ.up hbk; replace HN := HN.up hbk; replace kz := kz.up hbk)); have hr_0 := HR.c0; have hr_1 := HR.c1; have hr_2 := HR.c2; have hr_l := HR.lt; have hr_f0 := HR.f0; have hr_f1 := HR.f1; have hr_f2 := HR.f2); (try (go_wp2_with fail)); refine hK.out _ _ ?_ (fun hHeld => ?_); (focus ((try dsimp only); (first | (with_reducible exact ⟨HN.c0, HN.c1, HS.c0, HS.c1, HS.c2⟩) | exact ⟨(((HN.far (by omega) _).far (by omega) _).far (by omega) _).c0, (((HN.far (by omega) _).far (by omega) _).far (by omega) _).c1, (((HS.far (by omega) _).far (by omega) _).far (by omega) _).c0, (((HS.far (by omega) _).far (by omega) _).far (by omega) _).c1, (((HS.far (by omega) _).far (by omega) _).far (by omega) _).c2⟩))); clear hK K; (try simp only [List.getElem_toArray, List.getElem_cons_zero, List.getElem_cons_succ, Act.put, List.setIfInBounds_toArray, List.set_cons_zero, List.set_cons_succ]))
    (refine wpAnyH_take (i := 9) (v := ?_) rfl (by decide +kernel) (by decide +kernel) (by decide +kernel) (fun _ _ _ h => h) (Or.inl ⟨by rfl, ?_⟩) (by assumption) ?_; rotate_left; (focus ((intro w hSw; (try dsimp only at hSw); go_simp); (try (with_reducible rfl)); done)); (try simp only [List.getElem_toArray, List.getElem_cons_zero, List.getElem_cons_succ, Act.put, List.setIfInBounds_toArray, List.set_cons_zero, List.set_cons_succ]))
    (refine wpAnyH_ready (rs := [10]) (by decide +kernel) (by simp) ?_; refine AllReadyH.cons rfl (fun K hK => ?_) AllReadyH.nil; go_simp; refine hK.out _ _ ?_ (fun hHeld => ?_); (focus ((try dsimp only); (first | (with_reducible exact ⟨HN.c0, HN.c1, HS.c0, HS.c1, HS.c2⟩) | exact ⟨(((HN.far (by omega) _).far (by omega) _).far (by omega) _).c0, (((HN.far (by omega) _).far (by omega) _).far (by omega) _).c1, (((HS.far (by omega) _).far (by omega) _).far (by omega) _).c0, (((HS.far (by omega) _).far (by omega) _).far (by omega) _).c1, (((HS.far (by omega) _).far (by omega) _).far (by omega) _).c2⟩))); clear hK K; (try simp only [List.getElem_toArray, List.getElem_cons_zero, List.getElem_cons_succ, Act.put, List.setIfInBounds_toArray, List.set_cons_zero, List.set_cons_succ]))
    (refine wpAnyH_take (i := 11) (v := ?_) rfl (by decide +kernel) (by decide +kernel) (by decide +kernel) (fun _ _ _ h => h) (Or.inl ⟨by rfl, ?_⟩) (by assumption) ?_; rotate_left; (focus ((intro w hSw; (try dsimp only at hSw); go_simp); (try (with_reducible rfl)); done)); (try simp only [List.getElem_toArray, List.getElem_cons_zero, List.getElem_cons_succ, Act.put, List.setIfInBounds_toArray, List.set_cons_zero, List.set_cons_succ]))
    refine wpAnyH_done (by decide +kernel) ?_ _
    go_wp2_with fail
    refine name_end ?_
    intro W4 hW4
    have HF : At W4 (W.heap.size + 1 + 1) [.bool sg, .slice J (dq v) j, .int .i64 (s : Int)] := by rw [hW4]; exact HR.put3 _ _ _
    have NF : Rn W4 J j v := by rw [hW4]; exact rn_dbox rn hr_0 hr_1 hr_2 HZ.2 _ _ _ _ _
    have BF : Bel W W4 := by rw [hW4]; exact below3 HB (by omega) _ _ _
    clear hW4 hr_0 hr_1 hr_2 hr_l hr_f0 hr_f1 hr_f2
    have hr_0 := HF.c0
    have hr_1 := HF.c1
    have hr_2 := HF.c2
    refine bodyPost_ret (v := .tuple #[.agg #[.bool sg, .slice J (dq v) j, .int .i64 (s : Int)], .bool true]) (by simp [results, Tryz.results17, go_sem, hr_0, hr_1, hr_2]) rfl ?_
    exact ⟨_, _, _, _, _, rfl, fun _ => ⟨rfl, rfl, rfl, NF⟩, BF⟩
end
end Go.Proofs.YtmiklffjffdkgaaGreatDoor
end

section
/- Package rat: Inv. -/
open Go.RowKit
set_option maxRecDepth 100000
namespace Go.Proofs.YtmiklffjffdkgaaGreatDoor
section
variable {W w : World} {b : Bool} {A A' : Option Addr} {n c n' c' K m m' : Nat} {r : Rat} {z : Int}
theorem tt_inv {s : Bool} {z : Int} {d : Nat} {B : Option Addr} {k e : Nat} (hz : ZA W s B k e z) (h : TT z d r K) (h0 : r ≠ 0) : z ≠ 0 ∧ mkRat (zi s d) z.natAbs = r⁻¹ := by
  obtain ⟨h1, h2, _, _⟩ := h
  have hz0 : z ≠ 0 := by
    intro e
    apply h0
    rw [← h2, e]; simp
  refine ⟨hz0, ?_⟩
  have hs := za_sign hz hz0
  rw [← h2, inv_mk hz0 h1, hs]
  by_cases hn : z < 0
  · rw [if_pos hn, decide_eq_true hn, zi_true]
  · rw [if_neg hn, decide_eq_false hn, zi_false]

set_option maxHeartbeats 2000000 in
theorem inv_yes (h : QA W b A n c A' n' c' r K) (hK : 0 < K) (hK2 : K ≤ 20000) (h0 : r ≠ 0) : Calls Tryz.prog 100 #[.agg #[.bool b, .slice A n c, .slice A' n' c']] W (OfYes W r⁻¹) := by
  obtain ⟨si, hsi⟩ : ∃ s, s = decide ((r⁻¹).num < 0) := ⟨_, rfl⟩
  obtain ⟨v, hv⟩ : ∃ v, v = r⁻¹ := ⟨_, rfl⟩
  rw [← hv] at hsi
  have CT : Hid (∀ W', Bel W W' → Calls Tryz.prog 69 #[.agg #[.bool b, .slice A n c, .slice A' n' c']] W' (TermsR W' r K)) := fun W' hb => terms_h (h.up hb) hK
  have CO : Hid (∀ W' s B k e B' k' e' z d, ZA W' s B k e z → Nm W' B' k' e' d → Hid (TT z d r K) → Calls Tryz.prog 54 #[.agg #[.bool s, .slice B' k' e'], .agg #[.slice B k e]] W' (OfYs2 W' si v)) := fun W' s B k e B' k' e' z d h1 h2 h3 => by
    obtain ⟨e1, e2⟩ := tt_inv h1 h3.out h0
    rw [hsi, hv]
    exact of_yes (za_of h2) h1.1 (by omega) e2 (by rw [zi_abs]; exact dl_bd2 h3.out.2.2.2 (by omega)) (dl_bd2 h3.out.2.2.1 (by omega))
  rw [← hv]
  have HSI := hide hsi
  clear h h0 hsi hv
  have HB := Bel.refl W
  go_enter Tryz.func100, Tryz.ntmps100
  go_wp2_with (first | (go_at_call 69; (with_reducible refine (CT.out _ ((HB.al _).al _)).mono ?_); rintro e w1 ⟨ps, pA, pn, pc, pB, pm, pe, pz, pd, rfl, pzz, pnn, ph, hbk⟩; have HR := At.up (at_new1 _ _ _ _) hbk; replace HB := ((HB.al _).al _).up hbk; replace ph : Hid (TT pz pd r K) := ph) | (go_at_call 54; (with_reducible refine (CO.out _ _ _ _ _ _ _ _ _ _ ((pzz.al _).al _) ((pnn.al _).al _) ph).mono ?_); rintro e w2 ⟨B, e1, B', e2, rfl, nz, nd, hbk⟩; replace HB := ((HB.al _).al _).up hbk; replace HR := ((HR.al _).al _).up hbk; have hr_0 := HR.c0; have hr_1 := HR.c1; have hr_2 := HR.c2; have hr_l := HR.lt; have hr_f0 := HR.f0; have hr_f1 := HR.f1; have hr_f2 := HR.f2) | fail)
  refine bodyPost_ret (v := .tuple #[.agg #[.bool si, .slice B (dl v.num.natAbs) e1, .slice B' (dl v.den) e2], .bool true]) (by simp [results, Tryz.results100, go_sem, hr_0, hr_1, hr_2]) rfl ?_
  exact ⟨B, e1, B', e2, by rw [HSI.out], zr_of (nz.1.put3 HR now3), nd.put3 HR now3, below3 HB (by omega) _ _ _⟩
set_option maxHeartbeats 2000000 in
theorem inv_no (h : QA W b A n c A' n' c' r K) (hK : 0 < K) (h0 : r = 0) : Calls Tryz.prog 100 #[.agg #[.bool b, .slice A n c, .slice A' n' c']] W (OfNo W) := by
  have CT : Hid (∀ W', Bel W W' → Calls Tryz.prog 69 #[.agg #[.bool b, .slice A n c, .slice A' n' c']] W' (TermsR W' r K)) := fun W' hb => terms_h (h.up hb) hK
  have CO : Hid (∀ W' s B k e B' k' e' z d, ZA W' s B k e z → Nm W' B' k' e' d → Hid (TT z d r K) → Calls Tryz.prog 54 #[.agg #[.bool s, .slice B' k' e'], .agg #[.slice B k e]] W' (OfNo W')) := fun W' s B k e B' k' e' z d h1 h2 h3 => by
    have e1 : z = 0 := (Rat.mkRat_eq_zero (by have := h3.out.1; omega)).1 (h3.out.2.1.trans h0)
    subst e1
    exact of_no h1.1
  clear h h0
  have HB := Bel.refl W
  go_enter Tryz.func100, Tryz.ntmps100
  go_wp2_with (first | (go_at_call 69; (with_reducible refine (CT.out _ ((HB.al _).al _)).mono ?_); rintro e w1 ⟨ps, pA, pn, pc, pB, pm, pe, pz, pd, rfl, pzz, pnn, ph, hbk⟩; have HR := At.up (at_new1 _ _ _ _) hbk; replace HB := ((HB.al _).al _).up hbk; replace ph : Hid (TT pz pd r K) := ph) | (go_at_call 54; (with_reducible refine (CO.out _ _ _ _ _ _ _ _ _ _ ((pzz.al _).al _) ((pnn.al _).al _) ph).mono ?_); rintro e w2 ⟨rfl, hbk⟩; replace HB := ((HB.al _).al _).up hbk; replace HR := ((HR.al _).al _).up hbk; have hr_0 := HR.c0; have hr_1 := HR.c1; have hr_2 := HR.c2; have hr_l := HR.lt; have hr_f0 := HR.f0; have hr_f1 := HR.f1; have hr_f2 := HR.f2) | fail)
  refine bodyPost_ret (v := .tuple #[.agg #[.bool false, .slice none 0 0, .slice none 0 0], .bool false]) (by simp [results, Tryz.results100, go_sem, hr_0, hr_1, hr_2]) rfl ?_
  exact ⟨rfl, below3 HB (by omega) _ _ _⟩
end
end Go.Proofs.YtmiklffjffdkgaaGreatDoor
end

section
/- Package round: whole. Conditions: terms of at most 20000 words. -/
open Go.RowKit
set_option maxRecDepth 100000
namespace Go.Proofs.YtmiklffjffdkgaaGreatDoor
theorem dlz_ : dl (0 : Int).natAbs = 0 := by unfold dl; rw [show (0 : Int).natAbs = 0 from rfl, digs_zero]; rfl
section
variable {W : World} {b b' : Bool} {A A' : Option Addr} {n n' c c' q K : Nat} {p f r m : Int}
theorem nabs_div_le (p : Int) (q : Nat) : (p / (q : Int)).natAbs ≤ p.natAbs := by
  by_cases hq : q = 0
  · rw [hq]; simp
  · have h1 := Int.emod_add_mul_ediv p (q : Int)
    have h2 := Int.emod_nonneg p (by omega : (q : Int) ≠ 0)
    have h3 := Int.emod_lt_of_pos p (by omega : (0 : Int) < (q : Int))
    by_cases hp : 0 ≤ p
    · have h4 : p / (q : Int) ≤ p := Int.ediv_le_self _ hp
      have h5 : 0 ≤ p / (q : Int) := Int.ediv_nonneg hp (by omega)
      omega
    · have h4 : p / (q : Int) < 0 := Int.ediv_neg_of_neg_of_pos (by omega) (by omega)
      have h5 : (q : Int) * (p / (q : Int)) ≤ 1 * (p / (q : Int)) := Int.mul_le_mul_of_nonpos_right (by omega) (by omega)
      have h6 : p ≤ p / (q : Int) := Int.le_of_not_gt fun h => by
        have h7 : p / (q : Int) + 1 ≤ p := by omega
        have h8 := Int.mul_le_mul_of_nonneg_left h7 (by omega : (0 : Int) ≤ (q : Int))
        have h9 : (q : Int) * p ≤ 1 * p := Int.mul_le_mul_of_nonpos_right (by omega) (by omega)
        rw [Int.mul_add] at h8
        omega
      omega
set_option maxHeartbeats 8000000 in
theorem whole_0 (hz : ZA W b A n c p) (hq : Nm W A' n' c' q) (hm : 1 ≤ m ∧ m ≤ 7) (bp : p.natAbs < W32 ^ K) (bq : q < W32 ^ K) (hK : K ≤ 20000) (h0 : q = 0) : Calls Tryz.prog 25 #[.agg #[.bool b, .slice A n c], .agg #[.slice A' n' c'], .int .i64 m] W (ZR W (rdZ m p q)) := by
  have HE : rdZ m p q = 0 := by unfold rdZ; rw [if_pos h0]
  rw [HE]
  have CD : Hid (∀ W', Bel W W' → Calls Tryz.prog 62 #[.agg #[.bool b, .slice A n c], .agg #[.bool false, .slice A' n' c']] W' (ZDivNo W')) := fun W' hb => zdiv_no (z' := 0) (hz.up hb) (by have h1 := za_of (b := false) (hq.up hb); rw [zi_false, h0] at h1; exact h1) rfl
  have HZ := hide dlz_
  clear hz hq hm bp bq hK h0 HE
  have HB := Bel.refl W
  go_enter Tryz.func25, Tryz.ntmps25
  go_wp2_with (first | (go_at_call 62; (with_reducible refine (CD.out _ (((HB.al _).al _).al _)).mono ?_); rintro e w1 ⟨rfl, hbk⟩; (with_reducible (have H1 : At w1 (W.heap.size + 1) [.slice A' n' c'] := At.up ((at_new1 _ _ _ _).al _) hbk; have HR : At w1 (W.heap.size + 1 + 1) [.bool false, .slice none 0 0] := At.up (at_new2 _ _ _ _ _) hbk; replace HB := (((HB.al _).al _).al _).up hbk)); have hr_0 := ((HR.al (.cells #[.bool false, .slice none 0 0] 26)).al (.cells #[.bool false, .slice none 0 0] 26)).c0; have hr_1 := ((HR.al (.cells #[.bool false, .slice none 0 0] 26)).al (.cells #[.bool false, .slice none 0 0] 26)).c1; have hr_l := ((HR.al (.cells #[.bool false, .slice none 0 0] 26)).al (.cells #[.bool false, .slice none 0 0] 26)).lt; have hr_f0 := ((HR.al (.cells #[.bool false, .slice none 0 0] 26)).al (.cells #[.bool false, .slice none 0 0] 26)).f0; have hr_f1 := ((HR.al (.cells #[.bool false, .slice none 0 0] 26)).al (.cells #[.bool false, .slice none 0 0] 26)).f1) | fail)
  refine name_end ?_
  intro W4 hW4
  have HF : At W4 (W.heap.size + 1 + 1) [.bool false, .slice none 0 0] := by rw [hW4]; (repeat (first | with_reducible exact HR | (with_reducible refine At.al ?_ _) | (with_reducible refine At.put2 (v0 := .bool false) (v1 := .slice none 0 0) ?_ _ _)))
  have BF : Bel W W4 := by rw [hW4]; (repeat (first | with_reducible exact HB | (with_reducible refine Bel.al ?_ _) | (with_reducible refine Bel.put2 ?_ (by omega) _ _)))
  clear hW4
  refine bodyPost_ret (v := .agg #[.bool false, .slice none 0 0]) (by simp [results, Tryz.results25, go_sem, HF.c0, HF.c1]) rfl ?_
  exact ⟨none, 0, by rw [HZ.out]; rfl, ⟨by rw [HZ.out]; exact nm_nil _ _ _, by unfold Hid; decide⟩, BF⟩
set_option maxHeartbeats 8000000 in
theorem whole_i (hz : ZA W b A n c p) (hq : Nm W A' n' c' q) (hm : 1 ≤ m ∧ m ≤ 7) (bp : p.natAbs < W32 ^ K) (bq : q < W32 ^ K) (hK : K ≤ 20000) (h0 : q ≠ 0) (h1' : p % (q : Int) = 0) : Calls Tryz.prog 25 #[.agg #[.bool b, .slice A n c], .agg #[.slice A' n' c'], .int .i64 m] W (ZR W (rdZ m p q)) := by
  obtain ⟨f, hf⟩ : ∃ f, p / (q : Int) = f := ⟨_, rfl⟩
  obtain ⟨r, hr⟩ : ∃ r, p % (q : Int) = r := ⟨_, rfl⟩
  obtain ⟨t, ht⟩ : ∃ t, rdZ m p q = t := ⟨_, rfl⟩
  rw [ht]
  unfold rdZ at ht
  rw [if_neg h0, hf, hr] at ht
  have bf : f.natAbs < W32 ^ K := by rw [← hf]; exact Nat.lt_of_le_of_lt (nabs_div_le p q) bp
  have br : r.natAbs < W32 ^ K := by
    have h2 := Int.emod_nonneg p (by omega : (q : Int) ≠ 0)
    have h3 := Int.emod_lt_of_pos p (by omega : (0 : Int) < (q : Int))
    omega
  have hr0 : 0 ≤ r := by rw [← hr]; exact Int.emod_nonneg p (by omega : (q : Int) ≠ 0)
  have df : dl f.natAbs ≤ 99998 := Nat.le_trans (dl_le bf) (by omega)
  have dr : dl (r.natAbs + r.natAbs) ≤ 100000 := Nat.le_trans (dl_le (bd_add br br)) (by omega)
  rw [hr] at h1'
  obtain ⟨sf, hsf⟩ : ∃ x, x = decide (f < 0) := ⟨_, rfl⟩
  obtain ⟨sr, hsr⟩ : ∃ x, x = decide (r < 0) := ⟨_, rfl⟩
  obtain ⟨st, hst⟩ : ∃ x, x = decide (t < 0) := ⟨_, rfl⟩
  have CD : Hid (∀ W', Bel W W' → Calls Tryz.prog 62 #[.agg #[.bool b, .slice A n c], .agg #[.bool false, .slice A' n' c']] W' (ZDivS W' sf sr f r)) := fun W' hb => by
    rw [hsf, hsr]
    exact zdiv_h (hz.up hb) (za_of (b := false) (hq.up hb)) (by rw [zi_false]; omega) (Nat.le_trans (dl_le bp) (by omega)) (by rw [zi_false]; exact hf) (by rw [zi_false]; exact hr)
  have CS : Hid (∀ W' B e, ZA W' sr B (dl r.natAbs) e r → Calls Tryz.prog 63 #[.agg #[.bool sr, .slice B (dl r.natAbs) e]] W' (IntPost W' 0)) := fun W' B e h1 => sign_h h1 (by rw [h1']; rfl)
  have HT : t = f := by rw [← ht, if_pos h1']
  have HT2 := hide HT
  clear HT
  have HS := hide hst
  have HSF := hide hsf
  clear hz hq hm bp bq hK h0 hf hr ht bf br hr0 df dr hsf hsr hst h1'
  have HB := Bel.refl W
  go_enter Tryz.func25, Tryz.ntmps25
  go_wp2_with (first | (go_at_call 62; (with_reducible refine (CD.out _ (((HB.al _).al _).al _)).mono ?_); rintro e w1 ⟨Bf, ef, Br, er, rfl, zf, zr, hbk⟩; (with_reducible (have H1 : At w1 (W.heap.size + 1) [.slice A' n' c'] := At.up ((at_new1 _ _ _ _).al _) hbk; have HR : At w1 (W.heap.size + 1 + 1) [.bool false, .slice none 0 0] := At.up (at_new2 _ _ _ _ _) hbk; replace HB := (((HB.al _).al _).al _).up hbk)); have hr_0 := HR.c0; have hr_1 := HR.c1; have hr_l := HR.lt; have h1_0 := H1.c0; have h1_l := H1.lt; have HRL := HR.lt) | (go_at_call 63; (with_reducible refine (CS.out _ _ _ ((zr.al _).al _)).mono ?_); rintro e w2 ⟨rfl, hbk⟩; (with_reducible (have HF : At w2 w1.heap.size [.bool sf, .slice Bf (dl f.natAbs) ef] := At.up ((at_new0 _ _ _).al _) hbk; have HT : At w2 (w1.heap.size + 1) [.bool sr, .slice Br (dl r.natAbs) er] := At.up (at_new1 _ _ _ _) hbk; replace HB := ((HB.al _).al _).up hbk; replace HR := ((HR.al _).al _).up hbk; replace H1 := ((H1.al _).al _).up hbk; replace zf := ((zf.al _).al _).up hbk; replace zr := ((zr.al _).al _).up hbk)); clear hr_0 hr_1 hr_l h1_0 h1_l; have hf_0 := HF.c0; have hf_1 := HF.c1; have hf_l := HF.lt; have ht_0 := HT.c0; have ht_1 := HT.c1; have ht_l := HT.lt; have hr_0 := HR.c0; have hr_1 := HR.c1; have hr_l := HR.lt; have hr_f0 := HR.f0; have hr_f1 := HR.f1; have h1_0 := H1.c0; have h1_l := H1.lt; have zn := zr.1) | fail)
  rw [HT2.out]
  refine bodyPost_ret (v := .agg #[.bool sf, .slice Bf (dl f.natAbs) ef]) (by simp [results, Tryz.results25, go_sem, hr_0, hr_1]) rfl ?_
  rw [HSF.out] at zf ⊢
  exact ret_z HB (by omega) HR now2 zf
set_option maxHeartbeats 8000000 in
theorem whole_u (hz : ZA W b A n c p) (hq : Nm W A' n' c' q) (hm : 1 ≤ m ∧ m ≤ 7) (bp : p.natAbs < W32 ^ K) (bq : q < W32 ^ K) (hK : K ≤ 20000) (h0 : q ≠ 0) (h1' : ¬ p % (q : Int) = 0) (h2' : rdUp m (p / (q : Int)) (p % (q : Int)).natAbs q = true) : Calls Tryz.prog 25 #[.agg #[.bool b, .slice A n c], .agg #[.slice A' n' c'], .int .i64 m] W (ZR W (rdZ m p q)) := by
  obtain ⟨f, hf⟩ : ∃ f, p / (q : Int) = f := ⟨_, rfl⟩
  obtain ⟨r, hr⟩ : ∃ r, p % (q : Int) = r := ⟨_, rfl⟩
  obtain ⟨t, ht⟩ : ∃ t, rdZ m p q = t := ⟨_, rfl⟩
  rw [ht]
  unfold rdZ at ht
  rw [if_neg h0, hf, hr] at ht
  have bf : f.natAbs < W32 ^ K := by rw [← hf]; exact Nat.lt_of_le_of_lt (nabs_div_le p q) bp
  have br : r.natAbs < W32 ^ K := by
    have h2 := Int.emod_nonneg p (by omega : (q : Int) ≠ 0)
    have h3 := Int.emod_lt_of_pos p (by omega : (0 : Int) < (q : Int))
    omega
  have hr0 : 0 ≤ r := by rw [← hr]; exact Int.emod_nonneg p (by omega : (q : Int) ≠ 0)
  have df : dl f.natAbs ≤ 99998 := Nat.le_trans (dl_le bf) (by omega)
  have dr : dl (r.natAbs + r.natAbs) ≤ 100000 := Nat.le_trans (dl_le (bd_add br br)) (by omega)
  rw [hr] at h1'
  rw [hf, hr] at h2'
  obtain ⟨sf, hsf⟩ : ∃ x, x = decide (f < 0) := ⟨_, rfl⟩
  obtain ⟨sr, hsr⟩ : ∃ x, x = decide (r < 0) := ⟨_, rfl⟩
  obtain ⟨st, hst⟩ : ∃ x, x = decide (t < 0) := ⟨_, rfl⟩
  have CD : Hid (∀ W', Bel W W' → Calls Tryz.prog 62 #[.agg #[.bool b, .slice A n c], .agg #[.bool false, .slice A' n' c']] W' (ZDivS W' sf sr f r)) := fun W' hb => by
    rw [hsf, hsr]
    exact zdiv_h (hz.up hb) (za_of (b := false) (hq.up hb)) (by rw [zi_false]; omega) (Nat.le_trans (dl_le bp) (by omega)) (by rw [zi_false]; exact hf) (by rw [zi_false]; exact hr)
  have CS : Hid (∀ W' B e, ZA W' sr B (dl r.natAbs) e r → Calls Tryz.prog 63 #[.agg #[.bool sr, .slice B (dl r.natAbs) e]] W' (IntPost W' 1)) := fun W' B e h1 => sign_h h1 (Int.sign_eq_one_of_pos (by omega))
  have CR : Hid (∀ W' B e B' e', Bel W W' → ZA W' sf B (dl f.natAbs) e f → Nm W' B' (dl r.natAbs) e' r.natAbs → Calls Tryz.prog 64 #[.agg #[.bool sf, .slice B (dl f.natAbs) e], .agg #[.slice B' (dl r.natAbs) e'], .agg #[.slice A' n' c'], .int .i64 m] W' (RetB W' true)) := fun W' B e B' e' hb h1 h2 => by
    have h3 := rises_h h1 h2 (hq.up hb.hid) (by omega) hm dr
    rwa [h2'] at h3
  obtain ⟨one, hone⟩ : ∃ x : Int, x = 1 := ⟨_, rfl⟩
  obtain ⟨s1, hs1⟩ : ∃ x, x = decide (one < 0) := ⟨_, rfl⟩
  have CO : Hid (∀ W', Calls Tryz.prog 55 #[.int .i64 1] W' (ZRu W' s1 one)) := fun W' => by rw [hs1, hone]; exact zof_h (by decide) (by decide)
  have CA : Hid (∀ W' B e B' e', ZA W' sf B (dl f.natAbs) e f → ZA W' s1 B' (dl one.natAbs) e' one → Calls Tryz.prog 65 #[.agg #[.bool sf, .slice B (dl f.natAbs) e], .agg #[.bool s1, .slice B' (dl one.natAbs) e']] W' (ZRu W' st t)) := fun W' B e B' e' h1 h2 => by
    rw [hst]
    refine zadd_h h1 h2 ?_ ?_
    · rw [hone, ← ht, if_neg h1', if_pos h2']
    · rw [← ht, if_neg h1', if_pos h2']
      exact Nat.le_trans (dl_mono (b := f.natAbs + 1) (by omega)) (Nat.le_trans (dl_succ _) (by omega))
  have HS := hide hst
  have HSF := hide hsf
  clear hz hq hm bp bq hK h0 hf hr ht bf br hr0 df dr hsf hsr hst h1' h2' hone hs1
  have HB := Bel.refl W
  go_enter Tryz.func25, Tryz.ntmps25
  go_wp2_with (first | (go_at_call 62; (with_reducible refine (CD.out _ (((HB.al _).al _).al _)).mono ?_); rintro e w1 ⟨Bf, ef, Br, er, rfl, zf, zr, hbk⟩; (with_reducible (have H1 : At w1 (W.heap.size + 1) [.slice A' n' c'] := At.up ((at_new1 _ _ _ _).al _) hbk; have HR : At w1 (W.heap.size + 1 + 1) [.bool false, .slice none 0 0] := At.up (at_new2 _ _ _ _ _) hbk; replace HB := (((HB.al _).al _).al _).up hbk)); have hr_0 := HR.c0; have hr_1 := HR.c1; have hr_l := HR.lt; have h1_0 := H1.c0; have h1_l := H1.lt; have HRL := HR.lt) | (go_at_call 63; (with_reducible refine (CS.out _ _ _ ((zr.al _).al _)).mono ?_); rintro e w2 ⟨rfl, hbk⟩; (with_reducible (have HF : At w2 w1.heap.size [.bool sf, .slice Bf (dl f.natAbs) ef] := At.up ((at_new0 _ _ _).al _) hbk; have HT : At w2 (w1.heap.size + 1) [.bool sr, .slice Br (dl r.natAbs) er] := At.up (at_new1 _ _ _ _) hbk; replace HB := ((HB.al _).al _).up hbk; replace HR := ((HR.al _).al _).up hbk; replace H1 := ((H1.al _).al _).up hbk; replace zf := ((zf.al _).al _).up hbk; replace zr := ((zr.al _).al _).up hbk)); clear hr_0 hr_1 hr_l h1_0 h1_l; have hf_0 := HF.c0; have hf_1 := HF.c1; have hf_l := HF.lt; have ht_0 := HT.c0; have ht_1 := HT.c1; have ht_l := HT.lt; have hr_0 := HR.c0; have hr_1 := HR.c1; have hr_l := HR.lt; have hr_f0 := HR.f0; have hr_f1 := HR.f1; have h1_0 := H1.c0; have h1_l := H1.lt; have zn := zr.1) | (go_at_call 64; (with_reducible refine (CR.out _ _ _ _ _ HB zf zn).mono ?_); rintro e w3 ⟨rfl, hbk⟩; replace hbk := Bel.hid hbk; (with_reducible (replace HB := HB.up hbk; replace HR := HR.up hbk; replace HF := HF.up hbk; replace HT := HT.up hbk; replace H1 := H1.up hbk; replace zf := zf.up hbk)); clear hf_0 hf_1 hf_l ht_0 ht_1 ht_l hr_0 hr_1 hr_l hr_f0 hr_f1 h1_0 h1_l; have hf_0 := HF.c0; have hf_1 := HF.c1; have hf_l := HF.lt; have hr_0 := HR.c0; have hr_1 := HR.c1; have hr_l := HR.lt; have hr_f0 := HR.f0; have hr_f1 := HR.f1) | fail)
  clear hf_0 hf_1 hf_l hr_0 hr_1 hr_l hr_f0 hr_f1
  go_region_held3 (fun w' => w'.cell? ⟨w1.heap.size, 0, none⟩ = some (.bool sf) ∧ w'.cell? ⟨w1.heap.size, 1, none⟩ = some (.slice Bf (dl f.natAbs) ef))
    (refine ⟨(?_ : At _ w1.heap.size [.bool sf, .slice Bf (dl f.natAbs) ef]).c0, (?_ : At _ w1.heap.size [.bool sf, .slice Bf (dl f.natAbs) ef]).c1⟩ <;> (repeat (first | with_reducible exact HF | (with_reducible refine At.dr ?_) | (with_reducible refine At.al ?_ _) | (with_reducible refine At.far ?_ (by omega) _))))
    (first | (go_at_call 55; (with_reducible refine (CO.out _).mono ?_); rintro e w4 ⟨Bo, eo, rfl, zo, hbk⟩; (with_reducible (replace HB := HB.dr.up hbk; replace HR := HR.dr.up hbk; replace HF := HF.dr.up hbk; replace zf := zf.dr.up hbk))) | (go_at_call 65; (with_reducible refine (CA.out _ _ _ _ _ zf zo).mono ?_); rintro e w5 ⟨Bt, et, rfl, zt, hbk⟩; (with_reducible (replace HB := HB.up hbk; replace HR := HR.up hbk; replace HF := HF.up hbk)); have hr_0 := HR.c0; have hr_1 := HR.c1; have hr_l := HR.lt; have hr_f0 := HR.f0; have hr_f1 := HR.f1; have lf := HF.lt; have hne := (show w1.heap.size ≠ W.heap.size + 1 + 1 by omega)) | fail)
  go_wp2_with fail
  refine bodyPost_ret (v := .agg #[.bool st, .slice Bt (dl t.natAbs) et]) (by simp [results, Tryz.results25, go_sem, hr_0, hr_1]) rfl ?_
  rw [HS.out] at zt ⊢
  exact ret_z HB (by omega) HR now2 zt
set_option maxHeartbeats 8000000 in
theorem whole_d (hz : ZA W b A n c p) (hq : Nm W A' n' c' q) (hm : 1 ≤ m ∧ m ≤ 7) (bp : p.natAbs < W32 ^ K) (bq : q < W32 ^ K) (hK : K ≤ 20000) (h0 : q ≠ 0) (h1' : ¬ p % (q : Int) = 0) (h2' : ¬ rdUp m (p / (q : Int)) (p % (q : Int)).natAbs q = true) : Calls Tryz.prog 25 #[.agg #[.bool b, .slice A n c], .agg #[.slice A' n' c'], .int .i64 m] W (ZR W (rdZ m p q)) := by
  obtain ⟨f, hf⟩ : ∃ f, p / (q : Int) = f := ⟨_, rfl⟩
  obtain ⟨r, hr⟩ : ∃ r, p % (q : Int) = r := ⟨_, rfl⟩
  obtain ⟨t, ht⟩ : ∃ t, rdZ m p q = t := ⟨_, rfl⟩
  rw [ht]
  unfold rdZ at ht
  rw [if_neg h0, hf, hr] at ht
  have bf : f.natAbs < W32 ^ K := by rw [← hf]; exact Nat.lt_of_le_of_lt (nabs_div_le p q) bp
  have br : r.natAbs < W32 ^ K := by
    have h2 := Int.emod_nonneg p (by omega : (q : Int) ≠ 0)
    have h3 := Int.emod_lt_of_pos p (by omega : (0 : Int) < (q : Int))
    omega
  have hr0 : 0 ≤ r := by rw [← hr]; exact Int.emod_nonneg p (by omega : (q : Int) ≠ 0)
  have df : dl f.natAbs ≤ 99998 := Nat.le_trans (dl_le bf) (by omega)
  have dr : dl (r.natAbs + r.natAbs) ≤ 100000 := Nat.le_trans (dl_le (bd_add br br)) (by omega)
  rw [hr] at h1'
  rw [hf, hr] at h2'
  obtain ⟨sf, hsf⟩ : ∃ x, x = decide (f < 0) := ⟨_, rfl⟩
  obtain ⟨sr, hsr⟩ : ∃ x, x = decide (r < 0) := ⟨_, rfl⟩
  obtain ⟨st, hst⟩ : ∃ x, x = decide (t < 0) := ⟨_, rfl⟩
  have CD : Hid (∀ W', Bel W W' → Calls Tryz.prog 62 #[.agg #[.bool b, .slice A n c], .agg #[.bool false, .slice A' n' c']] W' (ZDivS W' sf sr f r)) := fun W' hb => by
    rw [hsf, hsr]
    exact zdiv_h (hz.up hb) (za_of (b := false) (hq.up hb)) (by rw [zi_false]; omega) (Nat.le_trans (dl_le bp) (by omega)) (by rw [zi_false]; exact hf) (by rw [zi_false]; exact hr)
  have CS : Hid (∀ W' B e, ZA W' sr B (dl r.natAbs) e r → Calls Tryz.prog 63 #[.agg #[.bool sr, .slice B (dl r.natAbs) e]] W' (IntPost W' 1)) := fun W' B e h1 => sign_h h1 (Int.sign_eq_one_of_pos (by omega))
  have CR : Hid (∀ W' B e B' e', Bel W W' → ZA W' sf B (dl f.natAbs) e f → Nm W' B' (dl r.natAbs) e' r.natAbs → Calls Tryz.prog 64 #[.agg #[.bool sf, .slice B (dl f.natAbs) e], .agg #[.slice B' (dl r.natAbs) e'], .agg #[.slice A' n' c'], .int .i64 m] W' (RetB W' false)) := fun W' B e B' e' hb h1 h2 => by
    have h3 := rises_h h1 h2 (hq.up hb.hid) (by omega) hm dr
    rwa [Bool.eq_false_iff.2 h2'] at h3
  have HT : t = f := by rw [← ht, if_neg h1', if_neg h2']
  have HT2 := hide HT
  clear HT
  have HS := hide hst
  have HSF := hide hsf
  clear hz hq hm bp bq hK h0 hf hr ht bf br hr0 df dr hsf hsr hst h1' h2'
  have HB := Bel.refl W
  go_enter Tryz.func25, Tryz.ntmps25
  go_wp2_with (first | (go_at_call 62; (with_reducible refine (CD.out _ (((HB.al _).al _).al _)).mono ?_); rintro e w1 ⟨Bf, ef, Br, er, rfl, zf, zr, hbk⟩; (with_reducible (have H1 : At w1 (W.heap.size + 1) [.slice A' n' c'] := At.up ((at_new1 _ _ _ _).al _) hbk; have HR : At w1 (W.heap.size + 1 + 1) [.bool false, .slice none 0 0] := At.up (at_new2 _ _ _ _ _) hbk; replace HB := (((HB.al _).al _).al _).up hbk)); have hr_0 := HR.c0; have hr_1 := HR.c1; have hr_l := HR.lt; have h1_0 := H1.c0; have h1_l := H1.lt; have HRL := HR.lt) | (go_at_call 63; (with_reducible refine (CS.out _ _ _ ((zr.al _).al _)).mono ?_); rintro e w2 ⟨rfl, hbk⟩; (with_reducible (have HF : At w2 w1.heap.size [.bool sf, .slice Bf (dl f.natAbs) ef] := At.up ((at_new0 _ _ _).al _) hbk; have HT : At w2 (w1.heap.size + 1) [.bool sr, .slice Br (dl r.natAbs) er] := At.up (at_new1 _ _ _ _) hbk; replace HB := ((HB.al _).al _).up hbk; replace HR := ((HR.al _).al _).up hbk; replace H1 := ((H1.al _).al _).up hbk; replace zf := ((zf.al _).al _).up hbk; replace zr := ((zr.al _).al _).up hbk)); clear hr_0 hr_1 hr_l h1_0 h1_l; have hf_0 := HF.c0; have hf_1 := HF.c1; have hf_l := HF.lt; have ht_0 := HT.c0; have ht_1 := HT.c1; have ht_l := HT.lt; have hr_0 := HR.c0; have hr_1 := HR.c1; have hr_l := HR.lt; have hr_f0 := HR.f0; have hr_f1 := HR.f1; have h1_0 := H1.c0; have h1_l := H1.lt; have zn := zr.1) | (go_at_call 64; (with_reducible refine (CR.out _ _ _ _ _ HB zf zn).mono ?_); rintro e w3 ⟨rfl, hbk⟩; replace hbk := Bel.hid hbk; (with_reducible (replace HB := HB.up hbk; replace HR := HR.up hbk; replace HF := HF.up hbk; replace HT := HT.up hbk; replace H1 := H1.up hbk; replace zf := zf.up hbk)); clear hf_0 hf_1 hf_l ht_0 ht_1 ht_l hr_0 hr_1 hr_l hr_f0 hr_f1 h1_0 h1_l; have hf_0 := HF.c0; have hf_1 := HF.c1; have hf_l := HF.lt; have hr_0 := HR.c0; have hr_1 := HR.c1; have hr_l := HR.lt; have hr_f0 := HR.f0; have hr_f1 := HR.f1) | fail)
  rw [HT2.out]
  refine bodyPost_ret (v := .agg #[.bool sf, .slice Bf (dl f.natAbs) ef]) (by simp [results, Tryz.results25, go_sem, hr_0, hr_1]) rfl ?_
  rw [HSF.out] at zf ⊢
  exact ret_z HB (by omega) HR now2 zf
theorem whole_r (hz : ZA W b A n c p) (hq : Nm W A' n' c' q) (hm : 1 ≤ m ∧ m ≤ 7) (bp : p.natAbs < W32 ^ K) (bq : q < W32 ^ K) (hK : K ≤ 20000) : Calls Tryz.prog 25 #[.agg #[.bool b, .slice A n c], .agg #[.slice A' n' c'], .int .i64 m] W (ZR W (rdZ m p q)) := by
  by_cases h0 : q = 0
  · exact whole_0 hz hq hm bp bq hK h0
  · by_cases h1 : p % (q : Int) = 0
    · exact whole_i hz hq hm bp bq hK h0 h1
    · by_cases h2 : rdUp m (p / (q : Int)) (p % (q : Int)).natAbs q = true
      · exact whole_u hz hq hm bp bq hK h0 h1 h2
      · exact whole_d hz hq hm bp bq hK h0 h1 h2
end
end Go.Proofs.YtmiklffjffdkgaaGreatDoor
end
