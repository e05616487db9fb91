/- Several texts in one, each with its own sentence and conditions. -/
import Derived.Test.YtphnmccpcjecnaaGreatDoorGDsbc22
import Derived.Test.YtphnmccpcjecnaaGreatDoorGDsbc28
import Derived.Test.YtphnmccpcjecnaaGreatDoorGDsbc13
import Derived.Test.YtphnmccpcjecnaaGreatDoorGDsbc33
import Derived.Deep.RegionHeld3
import Derived.Deep.CutRange
section
/- Package rat: Inv. -/
open Go.RowKit
set_option maxRecDepth 100000
namespace Go.Proofs.YtphnmccpcjecnaaGreatDoor
section
variable {W w : World} {b : Bool} {A A' : Option Addr} {n c n' c' K m m' : Nat} {r : Rat} {z : Int}
theorem tt_inv {s : Bool} {z : Int} {d : Nat} {B : Option Addr} {k e : Nat} (hz : ZA W s B k e z) (h : TT z d r K) (h0 : r ≠ 0) : z ≠ 0 ∧ mkRat (zi s d) z.natAbs = r⁻¹ := by
  obtain ⟨h1, h2, _, _⟩ := h
  have hz0 : z ≠ 0 := by
    intro e
    apply h0
    rw [← h2, e]; simp
  refine ⟨hz0, ?_⟩
  have hs := za_sign hz hz0
  rw [← h2, inv_mk hz0 h1, hs]
  by_cases hn : z < 0
  · rw [if_pos hn, decide_eq_true hn, zi_true]
  · rw [if_neg hn, decide_eq_false hn, zi_false]

set_option maxHeartbeats 2000000 in
theorem inv_yes (h : QA W b A n c A' n' c' r K) (hK : 0 < K) (hK2 : K ≤ 20000) (h0 : r ≠ 0) : Calls Tryz.prog 150 #[.agg #[.bool b, .slice A n c, .slice A' n' c']] W (OfYes W r⁻¹) := by
  obtain ⟨si, hsi⟩ : ∃ s, s = decide ((r⁻¹).num < 0) := ⟨_, rfl⟩
  obtain ⟨v, hv⟩ : ∃ v, v = r⁻¹ := ⟨_, rfl⟩
  rw [← hv] at hsi
  have CT : Hid (∀ W', Bel W W' → Calls Tryz.prog 123 #[.agg #[.bool b, .slice A n c, .slice A' n' c']] W' (TermsR W' r K)) := fun W' hb => terms_h (h.up hb) hK
  have CO : Hid (∀ W' s B k e B' k' e' z d, ZA W' s B k e z → Nm W' B' k' e' d → Hid (TT z d r K) → Calls Tryz.prog 48 #[.agg #[.bool s, .slice B' k' e'], .agg #[.slice B k e]] W' (OfYs2 W' si v)) := fun W' s B k e B' k' e' z d h1 h2 h3 => by
    obtain ⟨e1, e2⟩ := tt_inv h1 h3.out h0
    rw [hsi, hv]
    exact of_yes (za_of h2) h1.1 (by omega) e2 (by rw [zi_abs]; exact dl_bd2 h3.out.2.2.2 (by omega)) (dl_bd2 h3.out.2.2.1 (by omega))
  rw [← hv]
  have HSI := hide hsi
  clear h h0 hsi hv
  have HB := Bel.refl W
  go_enter Tryz.func150, Tryz.ntmps150
  go_wp2_with (first | (go_at_call 123; (with_reducible refine (CT.out _ ((HB.al _).al _)).mono ?_); rintro e w1 ⟨ps, pA, pn, pc, pB, pm, pe, pz, pd, rfl, pzz, pnn, ph, hbk⟩; have HR := At.up (at_new1 _ _ _ _) hbk; replace HB := ((HB.al _).al _).up hbk; replace ph : Hid (TT pz pd r K) := ph) | (go_at_call 48; (with_reducible refine (CO.out _ _ _ _ _ _ _ _ _ _ ((pzz.al _).al _) ((pnn.al _).al _) ph).mono ?_); rintro e w2 ⟨B, e1, B', e2, rfl, nz, nd, hbk⟩; replace HB := ((HB.al _).al _).up hbk; replace HR := ((HR.al _).al _).up hbk; have hr_0 := HR.c0; have hr_1 := HR.c1; have hr_2 := HR.c2; have hr_l := HR.lt; have hr_f0 := HR.f0; have hr_f1 := HR.f1; have hr_f2 := HR.f2) | fail)
  refine bodyPost_ret (v := .tuple #[.agg #[.bool si, .slice B (dl v.num.natAbs) e1, .slice B' (dl v.den) e2], .bool true]) (by simp [results, Tryz.results150, go_sem, hr_0, hr_1, hr_2]) rfl ?_
  exact ⟨B, e1, B', e2, by rw [HSI.out], zr_of (nz.1.put3 HR now3), nd.put3 HR now3, below3 HB (by omega) _ _ _⟩
set_option maxHeartbeats 2000000 in
theorem inv_no (h : QA W b A n c A' n' c' r K) (hK : 0 < K) (h0 : r = 0) : Calls Tryz.prog 150 #[.agg #[.bool b, .slice A n c, .slice A' n' c']] W (OfNo W) := by
  have CT : Hid (∀ W', Bel W W' → Calls Tryz.prog 123 #[.agg #[.bool b, .slice A n c, .slice A' n' c']] W' (TermsR W' r K)) := fun W' hb => terms_h (h.up hb) hK
  have CO : Hid (∀ W' s B k e B' k' e' z d, ZA W' s B k e z → Nm W' B' k' e' d → Hid (TT z d r K) → Calls Tryz.prog 48 #[.agg #[.bool s, .slice B' k' e'], .agg #[.slice B k e]] W' (OfNo W')) := fun W' s B k e B' k' e' z d h1 h2 h3 => by
    have e1 : z = 0 := (Rat.mkRat_eq_zero (by have := h3.out.1; omega)).1 (h3.out.2.1.trans h0)
    subst e1
    exact of_no h1.1
  clear h h0
  have HB := Bel.refl W
  go_enter Tryz.func150, Tryz.ntmps150
  go_wp2_with (first | (go_at_call 123; (with_reducible refine (CT.out _ ((HB.al _).al _)).mono ?_); rintro e w1 ⟨ps, pA, pn, pc, pB, pm, pe, pz, pd, rfl, pzz, pnn, ph, hbk⟩; have HR := At.up (at_new1 _ _ _ _) hbk; replace HB := ((HB.al _).al _).up hbk; replace ph : Hid (TT pz pd r K) := ph) | (go_at_call 48; (with_reducible refine (CO.out _ _ _ _ _ _ _ _ _ _ ((pzz.al _).al _) ((pnn.al _).al _) ph).mono ?_); rintro e w2 ⟨rfl, hbk⟩; replace HB := ((HB.al _).al _).up hbk; replace HR := ((HR.al _).al _).up hbk; have hr_0 := HR.c0; have hr_1 := HR.c1; have hr_2 := HR.c2; have hr_l := HR.lt; have hr_f0 := HR.f0; have hr_f1 := HR.f1; have hr_f2 := HR.f2) | fail)
  refine bodyPost_ret (v := .tuple #[.agg #[.bool false, .slice none 0 0, .slice none 0 0], .bool false]) (by simp [results, Tryz.results150, go_sem, hr_0, hr_1, hr_2]) rfl ?_
  exact ⟨rfl, below3 HB (by omega) _ _ _⟩
end
end Go.Proofs.YtphnmccpcjecnaaGreatDoor
end

section
/- Rounding in numbers: which integer beside p / q a mode takes; how near it is. No conditions. -/
open Go.RowKit
set_option maxRecDepth 100000
namespace Go.Proofs.YtphnmccpcjecnaaGreatDoor
/-- Where the distances don't tell: does the mode m take the integer above f? -/
def lnUp (m f : Int) : Bool :=
  if m = 1 ∨ m = 5 then decide (f < 0) else if m = 2 ∨ m = 6 then !decide (f < 0) else if m = 7 then decide (f % 2 ≠ 0) else decide (m = 4)
/-- f + r / q is no integer: does the mode m take the integer above f? -/
def rdUp (m f : Int) (r q : Nat) : Bool :=
  if m ≤ 4 then lnUp m f else if r + r < q then false else if q < r + r then true else lnUp m f
/-- p / q rounded by the mode m; over 0 it is 0. -/
def rdZ (m p : Int) (q : Nat) : Int :=
  if q = 0 then 0 else if p % (q : Int) = 0 then p / (q : Int) else if rdUp m (p / (q : Int)) (p % (q : Int)).natAbs q = true then p / (q : Int) + 1 else p / (q : Int)
/-- A fraction rounded by the mode m. -/
def rdR (m : Int) (x : Rat) : Int := rdZ m x.num x.den
theorem rdUp_mul {m f : Int} {r q g : Nat} (hg : 0 < g) : rdUp m f (r * g) (q * g) = rdUp m f r q := by
  unfold rdUp
  have e1 : (r * g + r * g < q * g) = (r + r < q) := by rw [← Nat.add_mul]; exact propext (Nat.mul_lt_mul_right hg)
  have e2 : (q * g < r * g + r * g) = (q < r + r) := by rw [← Nat.add_mul]; exact propext (Nat.mul_lt_mul_right hg)
  simp only [e1, e2]
theorem rdZ_mul {m p : Int} {q g : Nat} (hg : 0 < g) : rdZ m (p * (g : Int)) (q * g) = rdZ m p q := by
  have hg' : (0 : Int) < (g : Int) := by omega
  unfold rdZ
  by_cases hq : q = 0
  · rw [if_pos hq, if_pos (by rw [hq, Nat.zero_mul])]
  have hq2 : q * g ≠ 0 := Nat.mul_ne_zero hq (by omega)
  rw [if_neg hq, if_neg hq2]
  have e1 : p * (g : Int) / ((q * g : Nat) : Int) = p / (q : Int) := by
    rw [Int.natCast_mul, Int.mul_comm p, Int.mul_comm (q : Int)]; exact Int.mul_ediv_mul_of_pos p (q : Int) hg'
  have e2 : p * (g : Int) % ((q * g : Nat) : Int) = p % (q : Int) * (g : Int) := by
    rw [Int.natCast_mul, Int.mul_comm p, Int.mul_comm (q : Int), Int.mul_emod_mul_of_pos p (q : Int) hg', Int.mul_comm]
  have e3 : (p % (q : Int) * (g : Int) = 0) = (p % (q : Int) = 0) := propext ⟨fun h => by
    rcases Int.mul_eq_zero.1 h with h | h
    · exact h
    · omega, fun h => by rw [h, Int.zero_mul]⟩
  have e4 : (p % (q : Int) * (g : Int)).natAbs = (p % (q : Int)).natAbs * g := by rw [Int.natAbs_mul, Int.natAbs_natCast]
  rw [e1, e2, e4, rdUp_mul hg]
  simp only [e3]
theorem rdZ_mk (m z : Int) (d : Nat) : rdZ m z d = rdR m (mkRat z d) := by
  by_cases hd : d = 0
  · subst hd
    rw [Rat.mkRat_zero]
    unfold rdR rdZ
    rw [if_pos rfl, if_neg (by decide)]
    rfl
  · obtain ⟨h1, h2, h3, h4, h5, h6⟩ := low_terms (z := z) (d := d) (by omega) rfl
    obtain ⟨g, hg⟩ : ∃ g, g = Nat.gcd z.natAbs d := ⟨_, rfl⟩
    rw [← hg] at h1 h2 h3 h4 h5
    have hden : d = (mkRat z d).den * g := by
      rw [h3]; exact (Nat.div_mul_cancel (Nat.dvd_of_mod_eq_zero h5)).symm
    have hx := mk_cross (z := z) (d := d) (by omega)
    have k1 : ∀ (num : Int) (den g d : Nat), num * (d : Int) = z * (den : Int) → d = den * g → 0 < den → z = num * (g : Int) := by
      rintro num den g d h rfl hp
      refine Int.eq_of_mul_eq_mul_right (by omega : (den : Int) ≠ 0) ?_
      rw [← h, Int.natCast_mul, Int.mul_assoc, Int.mul_comm (g : Int)]
    have k2 : ∀ (num : Int) (den g : Nat), z = num * (g : Int) → d = den * g → 0 < g → rdZ m z d = rdZ m num den := by
      rintro num den g rfl rfl hg
      exact rdZ_mul hg
    exact k2 _ _ g (k1 _ _ g d hx hden (mkRat z d).den_pos) hden h1
theorem rd_near {m p : Int} {q : Nat} (hq : 0 < q) : rdZ m p q * (q : Int) - p < (q : Int) ∧ -(q : Int) < rdZ m p q * (q : Int) - p ∧ (5 ≤ m → 2 * (rdZ m p q * (q : Int) - p) ≤ (q : Int) ∧ -(q : Int) ≤ 2 * (rdZ m p q * (q : Int) - p)) := by
  have h1 := Int.emod_add_mul_ediv p (q : Int)
  have h2 := Int.emod_nonneg p (by omega : (q : Int) ≠ 0)
  have h3 := Int.emod_lt_of_pos p (by omega : (0 : Int) < (q : Int))
  obtain ⟨f, hf⟩ : ∃ f, f = p / (q : Int) := ⟨_, rfl⟩
  obtain ⟨r, hr⟩ : ∃ r, r = p % (q : Int) := ⟨_, rfl⟩
  obtain ⟨X, hX⟩ : ∃ X, X = (q : Int) * f := ⟨_, rfl⟩
  unfold rdZ
  rw [if_neg (by omega), ← hf, ← hr]
  rw [← hr, ← hf, ← hX] at h1
  rw [← hr] at h2 h3
  by_cases h0 : r = 0
  · rw [if_pos h0, Int.mul_comm, ← hX]
    refine ⟨by omega, by omega, fun _ => ⟨by omega, by omega⟩⟩
  · rw [if_neg h0]
    by_cases hu : rdUp m f r.natAbs q = true
    · rw [if_pos hu, Int.add_mul, Int.one_mul, Int.mul_comm, ← hX]
      refine ⟨by omega, by omega, fun h5 => ?_⟩
      unfold rdUp at hu
      rw [if_neg (by omega)] at hu
      by_cases h6 : r.natAbs + r.natAbs < q
      · rw [if_pos h6] at hu; cases hu
      · exact ⟨by omega, by omega⟩
    · rw [if_neg hu, Int.mul_comm, ← hX]
      refine ⟨by omega, by omega, fun h5 => ?_⟩
      unfold rdUp at hu
      rw [if_neg (by omega)] at hu
      by_cases h6 : r.natAbs + r.natAbs < q
      · exact ⟨by omega, by omega⟩
      · rw [if_neg h6] at hu
        by_cases h7 : q < r.natAbs + r.natAbs
        · rw [if_pos h7] at hu; exact absurd rfl hu
        · exact ⟨by omega, by omega⟩
theorem rdR_int (m n : Int) : rdR m (n : Rat) = n := by
  unfold rdR rdZ
  rw [show ((n : Rat)).den = 1 from rfl, show ((n : Rat)).num = n from rfl, if_neg (by decide), if_pos (by omega)]
  omega
end Go.Proofs.YtphnmccpcjecnaaGreatDoor
end

section
/- Package round: Mode, isOdd, leans, rises. Conditions: numbers of at most 99998 words. -/
open Go.RowKit
set_option maxRecDepth 100000
namespace Go.Proofs.YtphnmccpcjecnaaGreatDoor
theorem call_named {P : Program} {f : FuncId} {args : Array Value} {X : World} {Q : Ending → World → Prop} (h : ∀ W', W' = X → Calls P f args W' Q) : Calls P f args X Q := h X rfl
theorem At.put2 {W : World} {p : Nat} {v0 v1 : Value} (h : At W p [v0, v1]) (x y : Value) : At ((W.setCell ⟨p, 0, none⟩ x).setCell ⟨p, 1, none⟩ y) p [x, y] := (h.put (i := 0) (by simp) x).put (i := 1) (by simp) y
theorem At.far2 {W : World} {p q : Nat} {vs : List Value} (h : At W p vs) (hq : q ≠ p) (x y : Value) : At ((W.setCell ⟨q, 0, none⟩ x).setCell ⟨q, 1, none⟩ y) p vs := (h.far hq x).far hq y
theorem Bel.put2 {w W : World} (h : Bel w W) {p : Nat} (hp : w.heap.size ≤ p) (x y : Value) : Bel w ((W.setCell ⟨p, 0, none⟩ x).setCell ⟨p, 1, none⟩ y) := (h.put hp x).put hp y
theorem Nm.putz {W : World} {p : Nat} {A : Option Addr} {n c m : Nat} (h : Nm W A n c m) (hp : At W p [.bool false, .slice none 0 0]) (b : Bool) (B : Option Addr) (k d : Nat) :
    Nm ((W.setCell ⟨p, 0, none⟩ (.bool b)).setCell ⟨p, 1, none⟩ (.slice B k d)) A n c m :=
  (h.put hp (i := 0) (by simp) now2 _).put (hp.put (i := 0) (by simp) (.bool b)) (i := 1) (by simp) now2 _
/-- As ZR, the sign by a name of its own. -/
def ZRu (W : World) (sg : Bool) (z : Int) (e : Ending) (w' : World) : Prop := ∃ A c, e = .returned (.agg #[.bool sg, .slice A (dl z.natAbs) c]) ∧ ZA w' sg A (dl z.natAbs) c z ∧ Hid (Below W.heap.size W w')
theorem ZA.mv {W W' : World} {b : Bool} {A : Option Addr} {n c : Nat} {z : Int} (h : ZA W b A n c z) (h1 : Nm W' A n c z.natAbs) : ZA W' b A n c z := ⟨h1, h.2⟩
def ZDivS (W : World) (sq sr : Bool) (q r : Int) (e : Ending) (w' : World) : Prop :=
  ∃ A c A' c', e = .returned (.tuple #[.agg #[.bool sq, .slice A (dl q.natAbs) c], .agg #[.bool sr, .slice A' (dl r.natAbs) c'], .bool true]) ∧ ZA w' sq A (dl q.natAbs) c q ∧ ZA w' sr A' (dl r.natAbs) c' r ∧ Hid (Below W.heap.size W w')
section
variable {W : World} {b b' : Bool} {A A' : Option Addr} {n n' c c' m m' q r : Nat} {z f : Int}
theorem mode_h {m : Int} : Calls Tryz.prog 33 #[.int .i64 m] W (RetB W (decide (1 ≤ m ∧ m ≤ 7))) := by
  have HB := Bel.refl W
  by_cases h1 : 1 ≤ m
  · by_cases h2 : m ≤ 7
    · rw [decide_eq_true (show 1 ≤ m ∧ m ≤ 7 from ⟨h1, h2⟩)]
      go_enter Tryz.func33, Tryz.ntmps33
      go_wp2
      go_ret
      exact ⟨rfl, HB⟩
    · rw [decide_eq_false (show ¬ (1 ≤ m ∧ m ≤ 7) from fun h => h2 h.2)]
      go_enter Tryz.func33, Tryz.ntmps33
      go_wp2
      go_ret
      exact ⟨rfl, HB⟩
  · rw [decide_eq_false (show ¬ (1 ≤ m ∧ m ≤ 7) from fun h => h1 h.1)]
    go_enter Tryz.func33, Tryz.ntmps33
    go_wp2
    go_ret
    exact ⟨rfl, HB⟩
set_option maxHeartbeats 8000000 in
theorem odd_h (h : ZA W b A n c z) (hd : dl z.natAbs ≤ 99999) : Calls Tryz.prog 166 #[.agg #[.bool b, .slice A n c]] W (RetB W (decide (z % 2 ≠ 0))) := by
  obtain ⟨k, hk⟩ : ∃ k, z / 2 = k := ⟨_, rfl⟩
  obtain ⟨v, hv⟩ : ∃ v, z % 2 = v := ⟨_, rfl⟩
  obtain ⟨u, hu⟩ : ∃ u, v.sign = u := ⟨_, rfl⟩
  obtain ⟨t, ht⟩ : ∃ t : Int, t = 2 := ⟨_, rfl⟩
  obtain ⟨bk, hbk'⟩ : ∃ x, x = decide (k < 0) := ⟨_, rfl⟩
  obtain ⟨bv, hbv⟩ : ∃ x, x = decide (v < 0) := ⟨_, rfl⟩
  obtain ⟨bt, hbt⟩ : ∃ x, x = decide (t < 0) := ⟨_, rfl⟩
  have CO : Hid (∀ W', Calls Tryz.prog 116 #[.int .i64 2] W' (ZRu W' bt t)) := fun W' => by rw [hbt, ht]; exact zof_h (by decide) (by decide)
  have CD : Hid (∀ W' B e, Bel W W' → ZA W' bt B (dl t.natAbs) e t → Calls Tryz.prog 117 #[.agg #[.bool b, .slice A n c], .agg #[.bool bt, .slice B (dl t.natAbs) e]] W' (ZDivS W' bk bv k v)) := fun W' B e hb h1 => by
    rw [hbk', hbv]
    exact zdiv_h (h.up hb) h1 (by rw [ht]; decide) hd (by rw [ht]; exact hk) (by rw [ht]; exact hv)
  have CS : Hid (∀ W' B e, ZA W' bv B (dl v.natAbs) e v → Calls Tryz.prog 118 #[.agg #[.bool bv, .slice B (dl v.natAbs) e]] W' (IntPost W' u)) := fun W' B e h1 => sign_h h1 hu
  have HU : Hid ((u != 0) = decide (v ≠ 0)) := by
    unfold Hid
    rw [← hu]
    rcases Int.lt_trichotomy v 0 with h0 | h0 | h0
    · rw [Int.sign_eq_neg_one_of_neg h0, decide_eq_true (by omega)]; rfl
    · rw [h0]; rfl
    · rw [Int.sign_eq_one_of_pos h0, decide_eq_true (by omega)]; rfl
  rw [hv]
  clear h hd hk hv hu ht hbk' hbv hbt
  have HB := Bel.refl W
  go_enter Tryz.func166, Tryz.ntmps166
  go_wp2_with fail
  obtain ⟨W1, hW1⟩ : ∃ X, X = W.alloc (.cells #[.bool b, .slice A n c] 28) := ⟨_, rfl⟩
  rw [← hW1]
  have HA : At W1 W.heap.size [.bool b, .slice A n c] := by rw [hW1]; exact at_new0 _ _ _
  replace HB : Bel W W1 := by rw [hW1]; exact HB.al _
  clear hW1
  have la := HA.lt
  go_region_held3 (fun w' => w'.cell? ⟨W.heap.size, 0, none⟩ = some (.bool b) ∧ w'.cell? ⟨W.heap.size, 1, none⟩ = some (.slice A n c))
    (refine ⟨(?_ : At _ W.heap.size [.bool b, .slice A n c]).c0, (?_ : At _ W.heap.size [.bool b, .slice A n c]).c1⟩ <;> (repeat (first | with_reducible exact HA | (with_reducible refine At.dr ?_) | (with_reducible refine At.al ?_ _) | (with_reducible refine At.far ?_ (by omega) _))))
    (first | (go_at_call 116; (with_reducible refine (CO.out _).mono ?_); rintro e w2 ⟨B2, e2, rfl, z2, hbk⟩; (with_reducible (replace HB := HB.dr.up hbk; replace HA := HA.dr.up hbk)); have lz0 := HA.lt; (try have lz2 := HP0.lt); (try have lz3 := HP1.lt)) | (go_at_call 116; (with_reducible refine (CO.out _).mono ?_); rintro e w2 ⟨B2, e2, rfl, z2, hbk⟩; (with_reducible (have HP0 := At.up (at_new0 _ [.bool false, .slice none 0 0] _).dr hbk; replace HB := (HB.al _).dr.up hbk; replace HA := (HA.al _).dr.up hbk)); have lz0 := HA.lt; (try have lz2 := HP0.lt); (try have lz3 := HP1.lt)) | (go_at_call 116; (with_reducible refine (CO.out _).mono ?_); rintro e w2 ⟨B2, e2, rfl, z2, hbk⟩; (with_reducible (have HP0 := At.up ((at_new0 _ [.bool false, .slice none 0 0] _).al _).dr hbk; have HP1 := At.up (at_new1 _ _ [.bool false, .slice none 0 0] _).dr hbk; replace HB := ((HB.al _).al _).dr.up hbk; replace HA := ((HA.al _).al _).dr.up hbk)); have lz0 := HA.lt; (try have lz2 := HP0.lt); (try have lz3 := HP1.lt)) | (go_at_call 117; (with_reducible refine (CD.out _ _ _ HB z2).mono ?_); rintro e w3 ⟨Aq, cq, Ar, cr, rfl, zq, zr, hbk⟩; (with_reducible (replace HB := HB.up hbk; replace HA := HA.up hbk)); (try (with_reducible replace HP0 := HP0.up hbk)); (try (with_reducible replace HP1 := HP1.up hbk)); (try have hp0_0 := HP0.c0); (try have hp0_1 := HP0.c1); (try have fhp0_0 := HP0.f0); (try have fhp0_1 := HP0.f1); (try have lhp0 := HP0.lt); (try have hp1_0 := HP1.c0); (try have hp1_1 := HP1.c1); (try have fhp1_0 := HP1.f0); (try have fhp1_1 := HP1.f1); (try have lhp1 := HP1.lt); (try have hq0_0 := HQ0.c0); (try have hq0_1 := HQ0.c1); (try have fhq0_0 := HQ0.f0); (try have fhq0_1 := HQ0.f1); (try have lhq0 := HQ0.lt); (try have hq1_0 := HQ1.c0); (try have hq1_1 := HQ1.c1); (try have fhq1_0 := HQ1.f0); (try have fhq1_1 := HQ1.f1); (try have lhq1 := HQ1.lt); have lz1 := HA.lt) | (go_at_call 117; (with_reducible refine (CD.out _ _ _ (HB.al _) (z2.al _)).mono ?_); rintro e w3 ⟨Aq, cq, Ar, cr, rfl, zq, zr, hbk⟩; (with_reducible (have HQ0 := At.up (at_new0 _ [.bool false, .slice none 0 0] _) hbk; replace HB := (HB.al _).up hbk; replace HA := (HA.al _).up hbk)); (try (with_reducible replace HP0 := (HP0.al _).up hbk)); (try (with_reducible replace HP1 := (HP1.al _).up hbk)); (try have hp0_0 := HP0.c0); (try have hp0_1 := HP0.c1); (try have fhp0_0 := HP0.f0); (try have fhp0_1 := HP0.f1); (try have lhp0 := HP0.lt); (try have hp1_0 := HP1.c0); (try have hp1_1 := HP1.c1); (try have fhp1_0 := HP1.f0); (try have fhp1_1 := HP1.f1); (try have lhp1 := HP1.lt); (try have hq0_0 := HQ0.c0); (try have hq0_1 := HQ0.c1); (try have fhq0_0 := HQ0.f0); (try have fhq0_1 := HQ0.f1); (try have lhq0 := HQ0.lt); (try have hq1_0 := HQ1.c0); (try have hq1_1 := HQ1.c1); (try have fhq1_0 := HQ1.f0); (try have fhq1_1 := HQ1.f1); (try have lhq1 := HQ1.lt); have lz1 := HA.lt) | (go_at_call 117; (with_reducible refine (CD.out _ _ _ ((HB.al _).al _) ((z2.al _).al _)).mono ?_); rintro e w3 ⟨Aq, cq, Ar, cr, rfl, zq, zr, hbk⟩; (with_reducible (have HQ0 := At.up ((at_new0 _ [.bool false, .slice none 0 0] _).al _) hbk; have HQ1 := At.up (at_new1 _ _ [.bool false, .slice none 0 0] _) hbk; replace HB := ((HB.al _).al _).up hbk; replace HA := ((HA.al _).al _).up hbk)); (try (with_reducible replace HP0 := ((HP0.al _).al _).up hbk)); (try (with_reducible replace HP1 := ((HP1.al _).al _).up hbk)); (try have hp0_0 := HP0.c0); (try have hp0_1 := HP0.c1); (try have fhp0_0 := HP0.f0); (try have fhp0_1 := HP0.f1); (try have lhp0 := HP0.lt); (try have hp1_0 := HP1.c0); (try have hp1_1 := HP1.c1); (try have fhp1_0 := HP1.f0); (try have fhp1_1 := HP1.f1); (try have lhp1 := HP1.lt); (try have hq0_0 := HQ0.c0); (try have hq0_1 := HQ0.c1); (try have fhq0_0 := HQ0.f0); (try have fhq0_1 := HQ0.f1); (try have lhq0 := HQ0.lt); (try have hq1_0 := HQ1.c0); (try have hq1_1 := HQ1.c1); (try have fhq1_0 := HQ1.f0); (try have fhq1_1 := HQ1.f1); (try have lhq1 := HQ1.lt); have lz1 := HA.lt) | fail)
  all_goals
    go_wp2_with (first | (go_at_call 118; refine call_named ?_; intro W4 hW4; have zn := zr.1; have NF : Nm W4 Ar (dl v.natAbs) cr v.natAbs := (by rw [hW4]; (repeat (first | with_reducible exact HB | with_reducible exact HA | with_reducible exact HP0 | with_reducible exact HP1 | with_reducible exact HQ0 | with_reducible exact HQ1 | with_reducible exact zn | (with_reducible refine Bel.dr ?_) | (with_reducible refine Bel.al ?_ _) | (with_reducible refine Bel.put2 ?_ (by omega) _ _) | (with_reducible refine Nm.dr ?_) | (with_reducible refine Nm.al ?_ _) | (with_reducible refine Nm.putz ?_ ?_ _ _ _ _) | (with_reducible refine At.dr ?_) | (with_reducible refine At.al ?_ _) | (with_reducible refine At.far2 ?_ (by omega) _ _)  | (with_reducible refine At.put2 (v0 := .bool false) (v1 := .slice none 0 0) ?_ _ _)))); have BF : Bel W W4 := (by rw [hW4]; (repeat (first | with_reducible exact HB | with_reducible exact HA | with_reducible exact HP0 | with_reducible exact HP1 | with_reducible exact HQ0 | with_reducible exact HQ1 | with_reducible exact zn | (with_reducible refine Bel.dr ?_) | (with_reducible refine Bel.al ?_ _) | (with_reducible refine Bel.put2 ?_ (by omega) _ _) | (with_reducible refine Nm.dr ?_) | (with_reducible refine Nm.al ?_ _) | (with_reducible refine Nm.putz ?_ ?_ _ _ _ _) | (with_reducible refine At.dr ?_) | (with_reducible refine At.al ?_ _) | (with_reducible refine At.far2 ?_ (by omega) _ _)  | (with_reducible refine At.put2 (v0 := .bool false) (v1 := .slice none 0 0) ?_ _ _)))); clear hW4; (with_reducible refine (CS.out _ _ _ (zr.mv NF)).mono ?_); rintro e w5 ⟨rfl, hbk⟩; replace BF := BF.up hbk) | fail)
    go_ret
    exact ⟨bool_ret (by first | exact HU.out | (have := HU.out; simpa using this)), BF⟩
set_option maxHeartbeats 8000000 in
theorem leans_h {m : Int} (h : ZA W b A n c z) (hd : dl z.natAbs ≤ 99999) (hm : 1 ≤ m ∧ m ≤ 7) : Calls Tryz.prog 149 #[.agg #[.bool b, .slice A n c], .int .i64 m] W (RetB W (lnUp m z)) := by
  obtain ⟨u, hu⟩ : ∃ u, z.sign = u := ⟨_, rfl⟩
  obtain ⟨x, hx⟩ : ∃ x, x = decide (z % 2 ≠ 0) := ⟨_, rfl⟩
  have HU : Hid (decide (u < 0) = decide (z < 0)) := by
    unfold Hid
    rw [← hu]
    rcases Int.lt_trichotomy z 0 with h0 | h0 | h0
    · rw [Int.sign_eq_neg_one_of_neg h0, decide_eq_true h0]; rfl
    · rw [h0]; rfl
    · rw [Int.sign_eq_one_of_pos h0, decide_eq_false (show ¬ z < 0 by omega)]; rfl
  have CS : Hid (∀ W', Bel W W' → Calls Tryz.prog 118 #[.agg #[.bool b, .slice A n c]] W' (IntPost W' u)) := fun W' hb => sign_h (h.up hb) hu
  have CO : Hid (∀ W', Bel W W' → Calls Tryz.prog 166 #[.agg #[.bool b, .slice A n c]] W' (RetB W' x)) := fun W' hb => by rw [hx]; exact odd_h (h.up hb) hd
  obtain ⟨s, hs⟩ : ∃ s, s = decide (z < 0) := ⟨_, rfl⟩
  rw [← hs] at HU
  have HM : ∀ y : Bool, lnUp m z = y ↔ (if m = 1 ∨ m = 5 then s else if m = 2 ∨ m = 6 then !s else if m = 7 then x else decide (m = 4)) = y := fun y => by unfold lnUp; rw [hs, hx]
  obtain ⟨y, hy⟩ : ∃ y, lnUp m z = y := ⟨_, rfl⟩
  have HY := hide ((HM y).1 hy)
  rw [hy]
  clear hu hx hs HM hy h hd
  have HB := Bel.refl W
  have hmm : m = 1 ∨ m = 2 ∨ m = 3 ∨ m = 4 ∨ m = 5 ∨ m = 6 ∨ m = 7 := by omega
  clear hm
  rcases hmm with rfl | rfl | rfl | rfl | rfl | rfl | rfl
  all_goals
    have HY2 := HY.out
    simp only [Int.reduceEq, or_true, true_or, or_self, or_false, false_or, if_true, if_false, ↓reduceIte, decide_true, decide_false, Bool.false_eq_true] at HY2
    replace HY2 := hide HY2
    clear HY
    go_enter Tryz.func149, Tryz.ntmps149
    go_wp2_with (first | (go_at_call 118; (with_reducible refine (CS.out _ (HB.al _)).mono ?_); rintro e w1 ⟨rfl, hbk⟩; have HA := At.up (at_new0 _ _ _) hbk; replace HB := (HB.al _).up hbk; have ha_0 := HA.c0; have ha_1 := HA.c1; have ha_l := HA.lt) | (go_at_call 166; (with_reducible refine (CO.out _ HB).mono ?_); rintro e w2 ⟨rfl, hbk⟩; replace hbk := Bel.hid hbk; replace HB := HB.up hbk) | fail)
    go_ret
    exact ⟨bool_ret (by first | exact HY2.out | (rw [← HY2.out]; exact HU.out) | (rw [← HY2.out, ← HU.out]) | (rw [← HY2.out]; rfl) | (rw [← HY2.out, ← HU.out]; rfl)), HB⟩
set_option maxHeartbeats 8000000 in
theorem rises_dir {m : Int} (h : ZA W b A n c f) (hr : Nm W A' n' c' r) {A2 : Option Addr} {n2 c2 : Nat} (hq : Nm W A2 n2 c2 q) (hd : dl f.natAbs ≤ 99999) (hm : 1 ≤ m ∧ m ≤ 7) (h4 : m ≤ 4) : Calls Tryz.prog 119 #[.agg #[.bool b, .slice A n c], .agg #[.slice A' n' c'], .agg #[.slice A2 n2 c2], .int .i64 m] W (RetB W (lnUp m f)) := by
  obtain ⟨x, hx⟩ : ∃ x, x = lnUp m f := ⟨_, rfl⟩
  have CL : Hid (∀ W', Bel W W' → Calls Tryz.prog 149 #[.agg #[.bool b, .slice A n c], .int .i64 m] W' (RetB W' x)) := fun W' hb => by rw [hx]; exact leans_h (h.up hb) hd hm
  have HX := hide hx
  (try rw [← hx])
  have hmm : m = 1 ∨ m = 2 ∨ m = 3 ∨ m = 4 := by omega
  clear h hr hq hd hm h4 hx HX
  have HB := Bel.refl W
  rcases hmm with rfl | rfl | rfl | rfl
  all_goals
    go_enter Tryz.func119, Tryz.ntmps119
    go_wp2_with (first | (go_at_call 149; (with_reducible refine (CL.out _ (((HB.al _).al _).al _)).mono ?_); rintro e w1 ⟨rfl, hbk⟩; replace hbk := Bel.hid hbk; replace HB := (((HB.al _).al _).al _).up hbk) | fail)
    go_ret
    exact ⟨rfl, HB⟩
set_option maxHeartbeats 8000000 in
theorem rises_lo {m : Int} (h : ZA W b A n c f) (hr : Nm W A' n' c' r) {A2 : Option Addr} {n2 c2 : Nat} (hq : Nm W A2 n2 c2 q) (hd : dl f.natAbs ≤ 99999) (hm : 1 ≤ m ∧ m ≤ 7) (h4 : 4 < m) (hc : r + r < q) (hdq : dl (r + r) ≤ 100000) : Calls Tryz.prog 119 #[.agg #[.bool b, .slice A n c], .agg #[.slice A' n' c'], .agg #[.slice A2 n2 c2], .int .i64 m] W (RetB W false) := by
  obtain ⟨x, hx⟩ : ∃ x, x = lnUp m f := ⟨_, rfl⟩
  have CL : Hid (∀ W', Bel W W' → Calls Tryz.prog 149 #[.agg #[.bool b, .slice A n c], .int .i64 m] W' (RetB W' x)) := fun W' hb => by rw [hx]; exact leans_h (h.up hb) hd hm
  have HX := hide hx
  (try rw [← hx])
  obtain ⟨y, hy⟩ : ∃ y, r + r = y := ⟨_, rfl⟩
  rw [hy] at hc hdq
  have CA : Hid (∀ W', Bel W W' → Calls Tryz.prog 65 #[.agg #[.slice A' n' c'], .agg #[.slice A' n' c']] W' (NumR W' y)) := fun W' hb => add_h (hr.up hb) (hr.up hb) hy hdq
  have CC : Hid (∀ W' B e, Bel W W' → Nm W' B (dl y) e y → Calls Tryz.prog 74 #[.agg #[.slice B (dl y) e], .agg #[.slice A2 n2 c2]] W' (IntPost W' (-1))) := fun W' B e hb h1 => cmp_h h1 (hq.up hb) (cmpI_lt hc)
  have m1 : (m == 1) = false := by simp; omega
  have m2 : (m == 2) = false := by simp; omega
  have m3 : (m == 3) = false := by simp; omega
  have m4 : (m == 4) = false := by simp; omega
  clear h hr hq hd hm h4 hc hdq hx hy
  have HB := Bel.refl W
  have H0 := at_new0 W [.bool b, .slice A n c] 28
  have H1 := at_new1 W (.cells #[.bool b, .slice A n c] 28) [.slice A' n' c'] 24
  have H2 := at_new2 W (.cells #[.bool b, .slice A n c] 28) (.cells #[.slice A' n' c'] 24) [.slice A2 n2 c2] 24
  replace H1 := H1.al (.cells #[.slice A2 n2 c2] 24)
  replace H0 := (H0.al (.cells #[.slice A' n' c'] 24)).al (.cells #[.slice A2 n2 c2] 24)
  replace HB := ((HB.al (.cells #[.bool b, .slice A n c] 28)).al (.cells #[.slice A' n' c'] 24)).al (.cells #[.slice A2 n2 c2] 24)
  go_enter Tryz.func119, Tryz.ntmps119
  go_wp2_with fail
  go_region_held3 (fun w' => w'.cell? ⟨W.heap.size + 1, 0, none⟩ = some (.slice A' n' c') ∧ w'.cell? ⟨W.heap.size + 1 + 1, 0, none⟩ = some (.slice A2 n2 c2))
    (refine ⟨(?_ : At _ (W.heap.size + 1) [.slice A' n' c']).c0, (?_ : At _ (W.heap.size + 1 + 1) [.slice A2 n2 c2]).c0⟩ <;> (repeat (first | with_reducible exact H1 | with_reducible exact H2 | (with_reducible refine At.dr ?_) | (with_reducible refine At.al ?_ _) | (with_reducible refine At.far ?_ (by omega) _))))
    (first | (go_at_call 65; (with_reducible refine (CA.out _ HB.dr).mono ?_); rintro e w1 ⟨B1, e1, rfl, n1, hbk⟩; (with_reducible (replace HB := HB.dr.up hbk; replace H0 := H0.dr.up hbk; replace H1 := H1.dr.up hbk; replace H2 := H2.dr.up hbk))) | (go_at_call 74; (with_reducible refine (CC.out _ _ _ HB n1).mono ?_); rintro e w2 ⟨rfl, hbk⟩; (with_reducible (replace HB := HB.up hbk; replace H0 := H0.up hbk; replace H1 := H1.up hbk; replace H2 := H2.up hbk)); have h0_0 := H0.c0; have h0_1 := H0.c1; have h0_l := H0.lt) | fail)
  go_wp2_with (first | (go_at_call 149; (with_reducible refine (CL.out _ HB).mono ?_); rintro e w3 ⟨rfl, hbk⟩; replace hbk := Bel.hid hbk; replace HB := HB.up hbk) | fail)
  go_ret
  exact ⟨rfl, HB⟩
set_option maxHeartbeats 8000000 in
theorem rises_hi {m : Int} (h : ZA W b A n c f) (hr : Nm W A' n' c' r) {A2 : Option Addr} {n2 c2 : Nat} (hq : Nm W A2 n2 c2 q) (hd : dl f.natAbs ≤ 99999) (hm : 1 ≤ m ∧ m ≤ 7) (h4 : 4 < m) (hc : q < r + r) (hdq : dl (r + r) ≤ 100000) : Calls Tryz.prog 119 #[.agg #[.bool b, .slice A n c], .agg #[.slice A' n' c'], .agg #[.slice A2 n2 c2], .int .i64 m] W (RetB W true) := by
  obtain ⟨x, hx⟩ : ∃ x, x = lnUp m f := ⟨_, rfl⟩
  have CL : Hid (∀ W', Bel W W' → Calls Tryz.prog 149 #[.agg #[.bool b, .slice A n c], .int .i64 m] W' (RetB W' x)) := fun W' hb => by rw [hx]; exact leans_h (h.up hb) hd hm
  have HX := hide hx
  (try rw [← hx])
  obtain ⟨y, hy⟩ : ∃ y, r + r = y := ⟨_, rfl⟩
  rw [hy] at hc hdq
  have CA : Hid (∀ W', Bel W W' → Calls Tryz.prog 65 #[.agg #[.slice A' n' c'], .agg #[.slice A' n' c']] W' (NumR W' y)) := fun W' hb => add_h (hr.up hb) (hr.up hb) hy hdq
  have CC : Hid (∀ W' B e, Bel W W' → Nm W' B (dl y) e y → Calls Tryz.prog 74 #[.agg #[.slice B (dl y) e], .agg #[.slice A2 n2 c2]] W' (IntPost W' (1))) := fun W' B e hb h1 => cmp_h h1 (hq.up hb) (cmpI_gt hc)
  have m1 : (m == 1) = false := by simp; omega
  have m2 : (m == 2) = false := by simp; omega
  have m3 : (m == 3) = false := by simp; omega
  have m4 : (m == 4) = false := by simp; omega
  clear h hr hq hd hm h4 hc hdq hx hy
  have HB := Bel.refl W
  have H0 := at_new0 W [.bool b, .slice A n c] 28
  have H1 := at_new1 W (.cells #[.bool b, .slice A n c] 28) [.slice A' n' c'] 24
  have H2 := at_new2 W (.cells #[.bool b, .slice A n c] 28) (.cells #[.slice A' n' c'] 24) [.slice A2 n2 c2] 24
  replace H1 := H1.al (.cells #[.slice A2 n2 c2] 24)
  replace H0 := (H0.al (.cells #[.slice A' n' c'] 24)).al (.cells #[.slice A2 n2 c2] 24)
  replace HB := ((HB.al (.cells #[.bool b, .slice A n c] 28)).al (.cells #[.slice A' n' c'] 24)).al (.cells #[.slice A2 n2 c2] 24)
  go_enter Tryz.func119, Tryz.ntmps119
  go_wp2_with fail
  go_region_held3 (fun w' => w'.cell? ⟨W.heap.size + 1, 0, none⟩ = some (.slice A' n' c') ∧ w'.cell? ⟨W.heap.size + 1 + 1, 0, none⟩ = some (.slice A2 n2 c2))
    (refine ⟨(?_ : At _ (W.heap.size + 1) [.slice A' n' c']).c0, (?_ : At _ (W.heap.size + 1 + 1) [.slice A2 n2 c2]).c0⟩ <;> (repeat (first | with_reducible exact H1 | with_reducible exact H2 | (with_reducible refine At.dr ?_) | (with_reducible refine At.al ?_ _) | (with_reducible refine At.far ?_ (by omega) _))))
    (first | (go_at_call 65; (with_reducible refine (CA.out _ HB.dr).mono ?_); rintro e w1 ⟨B1, e1, rfl, n1, hbk⟩; (with_reducible (replace HB := HB.dr.up hbk; replace H0 := H0.dr.up hbk; replace H1 := H1.dr.up hbk; replace H2 := H2.dr.up hbk))) | (go_at_call 74; (with_reducible refine (CC.out _ _ _ HB n1).mono ?_); rintro e w2 ⟨rfl, hbk⟩; (with_reducible (replace HB := HB.up hbk; replace H0 := H0.up hbk; replace H1 := H1.up hbk; replace H2 := H2.up hbk)); have h0_0 := H0.c0; have h0_1 := H0.c1; have h0_l := H0.lt) | fail)
  go_wp2_with (first | (go_at_call 149; (with_reducible refine (CL.out _ HB).mono ?_); rintro e w3 ⟨rfl, hbk⟩; replace hbk := Bel.hid hbk; replace HB := HB.up hbk) | fail)
  go_ret
  exact ⟨rfl, HB⟩
set_option maxHeartbeats 8000000 in
theorem rises_eq {m : Int} (h : ZA W b A n c f) (hr : Nm W A' n' c' r) {A2 : Option Addr} {n2 c2 : Nat} (hq : Nm W A2 n2 c2 q) (hd : dl f.natAbs ≤ 99999) (hm : 1 ≤ m ∧ m ≤ 7) (h4 : 4 < m) (hc : r + r = q) (hdq : dl (r + r) ≤ 100000) : Calls Tryz.prog 119 #[.agg #[.bool b, .slice A n c], .agg #[.slice A' n' c'], .agg #[.slice A2 n2 c2], .int .i64 m] W (RetB W (lnUp m f)) := by
  obtain ⟨x, hx⟩ : ∃ x, x = lnUp m f := ⟨_, rfl⟩
  have CL : Hid (∀ W', Bel W W' → Calls Tryz.prog 149 #[.agg #[.bool b, .slice A n c], .int .i64 m] W' (RetB W' x)) := fun W' hb => by rw [hx]; exact leans_h (h.up hb) hd hm
  have HX := hide hx
  (try rw [← hx])
  obtain ⟨y, hy⟩ : ∃ y, r + r = y := ⟨_, rfl⟩
  rw [hy] at hc hdq
  have CA : Hid (∀ W', Bel W W' → Calls Tryz.prog 65 #[.agg #[.slice A' n' c'], .agg #[.slice A' n' c']] W' (NumR W' y)) := fun W' hb => add_h (hr.up hb) (hr.up hb) hy hdq
  have CC : Hid (∀ W' B e, Bel W W' → Nm W' B (dl y) e y → Calls Tryz.prog 74 #[.agg #[.slice B (dl y) e], .agg #[.slice A2 n2 c2]] W' (IntPost W' (0))) := fun W' B e hb h1 => cmp_h h1 (hq.up hb) (cmpI_eq hc)
  have m1 : (m == 1) = false := by simp; omega
  have m2 : (m == 2) = false := by simp; omega
  have m3 : (m == 3) = false := by simp; omega
  have m4 : (m == 4) = false := by simp; omega
  clear h hr hq hd hm h4 hc hdq hx hy
  have HB := Bel.refl W
  have H0 := at_new0 W [.bool b, .slice A n c] 28
  have H1 := at_new1 W (.cells #[.bool b, .slice A n c] 28) [.slice A' n' c'] 24
  have H2 := at_new2 W (.cells #[.bool b, .slice A n c] 28) (.cells #[.slice A' n' c'] 24) [.slice A2 n2 c2] 24
  replace H1 := H1.al (.cells #[.slice A2 n2 c2] 24)
  replace H0 := (H0.al (.cells #[.slice A' n' c'] 24)).al (.cells #[.slice A2 n2 c2] 24)
  replace HB := ((HB.al (.cells #[.bool b, .slice A n c] 28)).al (.cells #[.slice A' n' c'] 24)).al (.cells #[.slice A2 n2 c2] 24)
  go_enter Tryz.func119, Tryz.ntmps119
  go_wp2_with fail
  go_region_held3 (fun w' => w'.cell? ⟨W.heap.size + 1, 0, none⟩ = some (.slice A' n' c') ∧ w'.cell? ⟨W.heap.size + 1 + 1, 0, none⟩ = some (.slice A2 n2 c2))
    (refine ⟨(?_ : At _ (W.heap.size + 1) [.slice A' n' c']).c0, (?_ : At _ (W.heap.size + 1 + 1) [.slice A2 n2 c2]).c0⟩ <;> (repeat (first | with_reducible exact H1 | with_reducible exact H2 | (with_reducible refine At.dr ?_) | (with_reducible refine At.al ?_ _) | (with_reducible refine At.far ?_ (by omega) _))))
    (first | (go_at_call 65; (with_reducible refine (CA.out _ HB.dr).mono ?_); rintro e w1 ⟨B1, e1, rfl, n1, hbk⟩; (with_reducible (replace HB := HB.dr.up hbk; replace H0 := H0.dr.up hbk; replace H1 := H1.dr.up hbk; replace H2 := H2.dr.up hbk))) | (go_at_call 74; (with_reducible refine (CC.out _ _ _ HB n1).mono ?_); rintro e w2 ⟨rfl, hbk⟩; (with_reducible (replace HB := HB.up hbk; replace H0 := H0.up hbk; replace H1 := H1.up hbk; replace H2 := H2.up hbk)); have h0_0 := H0.c0; have h0_1 := H0.c1; have h0_l := H0.lt) | fail)
  go_wp2_with (first | (go_at_call 149; (with_reducible refine (CL.out _ HB).mono ?_); rintro e w3 ⟨rfl, hbk⟩; replace hbk := Bel.hid hbk; replace HB := HB.up hbk) | fail)
  go_ret
  exact ⟨rfl, HB⟩
theorem rises_h {m : Int} (h : ZA W b A n c f) (hr : Nm W A' n' c' r) {A2 : Option Addr} {n2 c2 : Nat} (hq : Nm W A2 n2 c2 q) (hd : dl f.natAbs ≤ 99999) (hm : 1 ≤ m ∧ m ≤ 7) (hdq : dl (r + r) ≤ 100000) : Calls Tryz.prog 119 #[.agg #[.bool b, .slice A n c], .agg #[.slice A' n' c'], .agg #[.slice A2 n2 c2], .int .i64 m] W (RetB W (rdUp m f r q)) := by
  unfold rdUp
  by_cases h4 : m ≤ 4
  · rw [if_pos h4]; exact rises_dir h hr hq hd hm h4
  · rw [if_neg h4]
    by_cases h1 : r + r < q
    · rw [if_pos h1]; exact rises_lo h hr hq hd hm (by omega) h1 hdq
    · rw [if_neg h1]
      by_cases h2 : q < r + r
      · rw [if_pos h2]; exact rises_hi h hr hq hd hm (by omega) h2 hdq
      · rw [if_neg h2]; exact rises_eq h hr hq hd hm (by omega) (by omega) hdq
end
end Go.Proofs.YtphnmccpcjecnaaGreatDoor
end

section
/- Package round: whole. Conditions: terms of at most 20000 words. -/
open Go.RowKit
set_option maxRecDepth 100000
namespace Go.Proofs.YtphnmccpcjecnaaGreatDoor
theorem dlz_ : dl (0 : Int).natAbs = 0 := by unfold dl; rw [show (0 : Int).natAbs = 0 from rfl, digs_zero]; rfl
section
variable {W : World} {b b' : Bool} {A A' : Option Addr} {n n' c c' q K : Nat} {p f r m : Int}
theorem nabs_div_le (p : Int) (q : Nat) : (p / (q : Int)).natAbs ≤ p.natAbs := by
  by_cases hq : q = 0
  · rw [hq]; simp
  · have h1 := Int.emod_add_mul_ediv p (q : Int)
    have h2 := Int.emod_nonneg p (by omega : (q : Int) ≠ 0)
    have h3 := Int.emod_lt_of_pos p (by omega : (0 : Int) < (q : Int))
    by_cases hp : 0 ≤ p
    · have h4 : p / (q : Int) ≤ p := Int.ediv_le_self _ hp
      have h5 : 0 ≤ p / (q : Int) := Int.ediv_nonneg hp (by omega)
      omega
    · have h4 : p / (q : Int) < 0 := Int.ediv_neg_of_neg_of_pos (by omega) (by omega)
      have h5 : (q : Int) * (p / (q : Int)) ≤ 1 * (p / (q : Int)) := Int.mul_le_mul_of_nonpos_right (by omega) (by omega)
      have h6 : p ≤ p / (q : Int) := Int.le_of_not_gt fun h => by
        have h7 : p / (q : Int) + 1 ≤ p := by omega
        have h8 := Int.mul_le_mul_of_nonneg_left h7 (by omega : (0 : Int) ≤ (q : Int))
        have h9 : (q : Int) * p ≤ 1 * p := Int.mul_le_mul_of_nonpos_right (by omega) (by omega)
        rw [Int.mul_add] at h8
        omega
      omega
set_option maxHeartbeats 8000000 in
theorem whole_0 (hz : ZA W b A n c p) (hq : Nm W A' n' c' q) (hm : 1 ≤ m ∧ m ≤ 7) (bp : p.natAbs < W32 ^ K) (bq : q < W32 ^ K) (hK : K ≤ 20000) (h0 : q = 0) : Calls Tryz.prog 68 #[.agg #[.bool b, .slice A n c], .agg #[.slice A' n' c'], .int .i64 m] W (ZR W (rdZ m p q)) := by
  have HE : rdZ m p q = 0 := by unfold rdZ; rw [if_pos h0]
  rw [HE]
  have CD : Hid (∀ W', Bel W W' → Calls Tryz.prog 117 #[.agg #[.bool b, .slice A n c], .agg #[.bool false, .slice A' n' c']] W' (ZDivNo W')) := fun W' hb => zdiv_no (z' := 0) (hz.up hb) (by have h1 := za_of (b := false) (hq.up hb); rw [zi_false, h0] at h1; exact h1) rfl
  have HZ := hide dlz_
  clear hz hq hm bp bq hK h0 HE
  have HB := Bel.refl W
  go_enter Tryz.func68, Tryz.ntmps68
  go_wp2_with (first | (go_at_call 117; (with_reducible refine (CD.out _ (((HB.al _).al _).al _)).mono ?_); rintro e w1 ⟨rfl, hbk⟩; (with_reducible (have H1 : At w1 (W.heap.size + 1) [.slice A' n' c'] := At.up ((at_new1 _ _ _ _).al _) hbk; have HR : At w1 (W.heap.size + 1 + 1) [.bool false, .slice none 0 0] := At.up (at_new2 _ _ _ _ _) hbk; replace HB := (((HB.al _).al _).al _).up hbk)); have hr_0 := ((HR.al (.cells #[.bool false, .slice none 0 0] 28)).al (.cells #[.bool false, .slice none 0 0] 28)).c0; have hr_1 := ((HR.al (.cells #[.bool false, .slice none 0 0] 28)).al (.cells #[.bool false, .slice none 0 0] 28)).c1; have hr_l := ((HR.al (.cells #[.bool false, .slice none 0 0] 28)).al (.cells #[.bool false, .slice none 0 0] 28)).lt; have hr_f0 := ((HR.al (.cells #[.bool false, .slice none 0 0] 28)).al (.cells #[.bool false, .slice none 0 0] 28)).f0; have hr_f1 := ((HR.al (.cells #[.bool false, .slice none 0 0] 28)).al (.cells #[.bool false, .slice none 0 0] 28)).f1) | fail)
  refine name_end ?_
  intro W4 hW4
  have HF : At W4 (W.heap.size + 1 + 1) [.bool false, .slice none 0 0] := by rw [hW4]; (repeat (first | with_reducible exact HR | (with_reducible refine At.al ?_ _) | (with_reducible refine At.put2 (v0 := .bool false) (v1 := .slice none 0 0) ?_ _ _)))
  have BF : Bel W W4 := by rw [hW4]; (repeat (first | with_reducible exact HB | (with_reducible refine Bel.al ?_ _) | (with_reducible refine Bel.put2 ?_ (by omega) _ _)))
  clear hW4
  refine bodyPost_ret (v := .agg #[.bool false, .slice none 0 0]) (by simp [results, Tryz.results68, go_sem, HF.c0, HF.c1]) rfl ?_
  exact ⟨none, 0, by rw [HZ.out]; rfl, ⟨by rw [HZ.out]; exact nm_nil _ _ _, by unfold Hid; decide⟩, BF⟩
set_option maxHeartbeats 8000000 in
theorem whole_i (hz : ZA W b A n c p) (hq : Nm W A' n' c' q) (hm : 1 ≤ m ∧ m ≤ 7) (bp : p.natAbs < W32 ^ K) (bq : q < W32 ^ K) (hK : K ≤ 20000) (h0 : q ≠ 0) (h1' : p % (q : Int) = 0) : Calls Tryz.prog 68 #[.agg #[.bool b, .slice A n c], .agg #[.slice A' n' c'], .int .i64 m] W (ZR W (rdZ m p q)) := by
  obtain ⟨f, hf⟩ : ∃ f, p / (q : Int) = f := ⟨_, rfl⟩
  obtain ⟨r, hr⟩ : ∃ r, p % (q : Int) = r := ⟨_, rfl⟩
  obtain ⟨t, ht⟩ : ∃ t, rdZ m p q = t := ⟨_, rfl⟩
  rw [ht]
  unfold rdZ at ht
  rw [if_neg h0, hf, hr] at ht
  have bf : f.natAbs < W32 ^ K := by rw [← hf]; exact Nat.lt_of_le_of_lt (nabs_div_le p q) bp
  have br : r.natAbs < W32 ^ K := by
    have h2 := Int.emod_nonneg p (by omega : (q : Int) ≠ 0)
    have h3 := Int.emod_lt_of_pos p (by omega : (0 : Int) < (q : Int))
    omega
  have hr0 : 0 ≤ r := by rw [← hr]; exact Int.emod_nonneg p (by omega : (q : Int) ≠ 0)
  have df : dl f.natAbs ≤ 99998 := Nat.le_trans (dl_le bf) (by omega)
  have dr : dl (r.natAbs + r.natAbs) ≤ 100000 := Nat.le_trans (dl_le (bd_add br br)) (by omega)
  rw [hr] at h1'
  obtain ⟨sf, hsf⟩ : ∃ x, x = decide (f < 0) := ⟨_, rfl⟩
  obtain ⟨sr, hsr⟩ : ∃ x, x = decide (r < 0) := ⟨_, rfl⟩
  obtain ⟨st, hst⟩ : ∃ x, x = decide (t < 0) := ⟨_, rfl⟩
  have CD : Hid (∀ W', Bel W W' → Calls Tryz.prog 117 #[.agg #[.bool b, .slice A n c], .agg #[.bool false, .slice A' n' c']] W' (ZDivS W' sf sr f r)) := fun W' hb => by
    rw [hsf, hsr]
    exact zdiv_h (hz.up hb) (za_of (b := false) (hq.up hb)) (by rw [zi_false]; omega) (Nat.le_trans (dl_le bp) (by omega)) (by rw [zi_false]; exact hf) (by rw [zi_false]; exact hr)
  have CS : Hid (∀ W' B e, ZA W' sr B (dl r.natAbs) e r → Calls Tryz.prog 118 #[.agg #[.bool sr, .slice B (dl r.natAbs) e]] W' (IntPost W' 0)) := fun W' B e h1 => sign_h h1 (by rw [h1']; rfl)
  have HT : t = f := by rw [← ht, if_pos h1']
  have HT2 := hide HT
  clear HT
  have HS := hide hst
  have HSF := hide hsf
  clear hz hq hm bp bq hK h0 hf hr ht bf br hr0 df dr hsf hsr hst h1'
  have HB := Bel.refl W
  go_enter Tryz.func68, Tryz.ntmps68
  go_wp2_with (first | (go_at_call 117; (with_reducible refine (CD.out _ (((HB.al _).al _).al _)).mono ?_); rintro e w1 ⟨Bf, ef, Br, er, rfl, zf, zr, hbk⟩; (with_reducible (have H1 : At w1 (W.heap.size + 1) [.slice A' n' c'] := At.up ((at_new1 _ _ _ _).al _) hbk; have HR : At w1 (W.heap.size + 1 + 1) [.bool false, .slice none 0 0] := At.up (at_new2 _ _ _ _ _) hbk; replace HB := (((HB.al _).al _).al _).up hbk)); have hr_0 := HR.c0; have hr_1 := HR.c1; have hr_l := HR.lt; have h1_0 := H1.c0; have h1_l := H1.lt; have HRL := HR.lt) | (go_at_call 118; (with_reducible refine (CS.out _ _ _ ((zr.al _).al _)).mono ?_); rintro e w2 ⟨rfl, hbk⟩; (with_reducible (have HF : At w2 w1.heap.size [.bool sf, .slice Bf (dl f.natAbs) ef] := At.up ((at_new0 _ _ _).al _) hbk; have HT : At w2 (w1.heap.size + 1) [.bool sr, .slice Br (dl r.natAbs) er] := At.up (at_new1 _ _ _ _) hbk; replace HB := ((HB.al _).al _).up hbk; replace HR := ((HR.al _).al _).up hbk; replace H1 := ((H1.al _).al _).up hbk; replace zf := ((zf.al _).al _).up hbk; replace zr := ((zr.al _).al _).up hbk)); clear hr_0 hr_1 hr_l h1_0 h1_l; have hf_0 := HF.c0; have hf_1 := HF.c1; have hf_l := HF.lt; have ht_0 := HT.c0; have ht_1 := HT.c1; have ht_l := HT.lt; have hr_0 := HR.c0; have hr_1 := HR.c1; have hr_l := HR.lt; have hr_f0 := HR.f0; have hr_f1 := HR.f1; have h1_0 := H1.c0; have h1_l := H1.lt; have zn := zr.1) | fail)
  rw [HT2.out]
  refine bodyPost_ret (v := .agg #[.bool sf, .slice Bf (dl f.natAbs) ef]) (by simp [results, Tryz.results68, go_sem, hr_0, hr_1]) rfl ?_
  rw [HSF.out] at zf ⊢
  exact ret_z HB (by omega) HR now2 zf
set_option maxHeartbeats 8000000 in
theorem whole_u (hz : ZA W b A n c p) (hq : Nm W A' n' c' q) (hm : 1 ≤ m ∧ m ≤ 7) (bp : p.natAbs < W32 ^ K) (bq : q < W32 ^ K) (hK : K ≤ 20000) (h0 : q ≠ 0) (h1' : ¬ p % (q : Int) = 0) (h2' : rdUp m (p / (q : Int)) (p % (q : Int)).natAbs q = true) : Calls Tryz.prog 68 #[.agg #[.bool b, .slice A n c], .agg #[.slice A' n' c'], .int .i64 m] W (ZR W (rdZ m p q)) := by
  obtain ⟨f, hf⟩ : ∃ f, p / (q : Int) = f := ⟨_, rfl⟩
  obtain ⟨r, hr⟩ : ∃ r, p % (q : Int) = r := ⟨_, rfl⟩
  obtain ⟨t, ht⟩ : ∃ t, rdZ m p q = t := ⟨_, rfl⟩
  rw [ht]
  unfold rdZ at ht
  rw [if_neg h0, hf, hr] at ht
  have bf : f.natAbs < W32 ^ K := by rw [← hf]; exact Nat.lt_of_le_of_lt (nabs_div_le p q) bp
  have br : r.natAbs < W32 ^ K := by
    have h2 := Int.emod_nonneg p (by omega : (q : Int) ≠ 0)
    have h3 := Int.emod_lt_of_pos p (by omega : (0 : Int) < (q : Int))
    omega
  have hr0 : 0 ≤ r := by rw [← hr]; exact Int.emod_nonneg p (by omega : (q : Int) ≠ 0)
  have df : dl f.natAbs ≤ 99998 := Nat.le_trans (dl_le bf) (by omega)
  have dr : dl (r.natAbs + r.natAbs) ≤ 100000 := Nat.le_trans (dl_le (bd_add br br)) (by omega)
  rw [hr] at h1'
  rw [hf, hr] at h2'
  obtain ⟨sf, hsf⟩ : ∃ x, x = decide (f < 0) := ⟨_, rfl⟩
  obtain ⟨sr, hsr⟩ : ∃ x, x = decide (r < 0) := ⟨_, rfl⟩
  obtain ⟨st, hst⟩ : ∃ x, x = decide (t < 0) := ⟨_, rfl⟩
  have CD : Hid (∀ W', Bel W W' → Calls Tryz.prog 117 #[.agg #[.bool b, .slice A n c], .agg #[.bool false, .slice A' n' c']] W' (ZDivS W' sf sr f r)) := fun W' hb => by
    rw [hsf, hsr]
    exact zdiv_h (hz.up hb) (za_of (b := false) (hq.up hb)) (by rw [zi_false]; omega) (Nat.le_trans (dl_le bp) (by omega)) (by rw [zi_false]; exact hf) (by rw [zi_false]; exact hr)
  have CS : Hid (∀ W' B e, ZA W' sr B (dl r.natAbs) e r → Calls Tryz.prog 118 #[.agg #[.bool sr, .slice B (dl r.natAbs) e]] W' (IntPost W' 1)) := fun W' B e h1 => sign_h h1 (Int.sign_eq_one_of_pos (by omega))
  have CR : Hid (∀ W' B e B' e', Bel W W' → ZA W' sf B (dl f.natAbs) e f → Nm W' B' (dl r.natAbs) e' r.natAbs → Calls Tryz.prog 119 #[.agg #[.bool sf, .slice B (dl f.natAbs) e], .agg #[.slice B' (dl r.natAbs) e'], .agg #[.slice A' n' c'], .int .i64 m] W' (RetB W' true)) := fun W' B e B' e' hb h1 h2 => by
    have h3 := rises_h h1 h2 (hq.up hb.hid) (by omega) hm dr
    rwa [h2'] at h3
  obtain ⟨one, hone⟩ : ∃ x : Int, x = 1 := ⟨_, rfl⟩
  obtain ⟨s1, hs1⟩ : ∃ x, x = decide (one < 0) := ⟨_, rfl⟩
  have CO : Hid (∀ W', Calls Tryz.prog 116 #[.int .i64 1] W' (ZRu W' s1 one)) := fun W' => by rw [hs1, hone]; exact zof_h (by decide) (by decide)
  have CA : Hid (∀ W' B e B' e', ZA W' sf B (dl f.natAbs) e f → ZA W' s1 B' (dl one.natAbs) e' one → Calls Tryz.prog 120 #[.agg #[.bool sf, .slice B (dl f.natAbs) e], .agg #[.bool s1, .slice B' (dl one.natAbs) e']] W' (ZRu W' st t)) := fun W' B e B' e' h1 h2 => by
    rw [hst]
    refine zadd_h h1 h2 ?_ ?_
    · rw [hone, ← ht, if_neg h1', if_pos h2']
    · rw [← ht, if_neg h1', if_pos h2']
      exact Nat.le_trans (dl_mono (b := f.natAbs + 1) (by omega)) (Nat.le_trans (dl_succ _) (by omega))
  have HS := hide hst
  have HSF := hide hsf
  clear hz hq hm bp bq hK h0 hf hr ht bf br hr0 df dr hsf hsr hst h1' h2' hone hs1
  have HB := Bel.refl W
  go_enter Tryz.func68, Tryz.ntmps68
  go_wp2_with (first | (go_at_call 117; (with_reducible refine (CD.out _ (((HB.al _).al _).al _)).mono ?_); rintro e w1 ⟨Bf, ef, Br, er, rfl, zf, zr, hbk⟩; (with_reducible (have H1 : At w1 (W.heap.size + 1) [.slice A' n' c'] := At.up ((at_new1 _ _ _ _).al _) hbk; have HR : At w1 (W.heap.size + 1 + 1) [.bool false, .slice none 0 0] := At.up (at_new2 _ _ _ _ _) hbk; replace HB := (((HB.al _).al _).al _).up hbk)); have hr_0 := HR.c0; have hr_1 := HR.c1; have hr_l := HR.lt; have h1_0 := H1.c0; have h1_l := H1.lt; have HRL := HR.lt) | (go_at_call 118; (with_reducible refine (CS.out _ _ _ ((zr.al _).al _)).mono ?_); rintro e w2 ⟨rfl, hbk⟩; (with_reducible (have HF : At w2 w1.heap.size [.bool sf, .slice Bf (dl f.natAbs) ef] := At.up ((at_new0 _ _ _).al _) hbk; have HT : At w2 (w1.heap.size + 1) [.bool sr, .slice Br (dl r.natAbs) er] := At.up (at_new1 _ _ _ _) hbk; replace HB := ((HB.al _).al _).up hbk; replace HR := ((HR.al _).al _).up hbk; replace H1 := ((H1.al _).al _).up hbk; replace zf := ((zf.al _).al _).up hbk; replace zr := ((zr.al _).al _).up hbk)); clear hr_0 hr_1 hr_l h1_0 h1_l; have hf_0 := HF.c0; have hf_1 := HF.c1; have hf_l := HF.lt; have ht_0 := HT.c0; have ht_1 := HT.c1; have ht_l := HT.lt; have hr_0 := HR.c0; have hr_1 := HR.c1; have hr_l := HR.lt; have hr_f0 := HR.f0; have hr_f1 := HR.f1; have h1_0 := H1.c0; have h1_l := H1.lt; have zn := zr.1) | (go_at_call 119; (with_reducible refine (CR.out _ _ _ _ _ HB zf zn).mono ?_); rintro e w3 ⟨rfl, hbk⟩; replace hbk := Bel.hid hbk; (with_reducible (replace HB := HB.up hbk; replace HR := HR.up hbk; replace HF := HF.up hbk; replace HT := HT.up hbk; replace H1 := H1.up hbk; replace zf := zf.up hbk)); clear hf_0 hf_1 hf_l ht_0 ht_1 ht_l hr_0 hr_1 hr_l hr_f0 hr_f1 h1_0 h1_l; have hf_0 := HF.c0; have hf_1 := HF.c1; have hf_l := HF.lt; have hr_0 := HR.c0; have hr_1 := HR.c1; have hr_l := HR.lt; have hr_f0 := HR.f0; have hr_f1 := HR.f1) | fail)
  clear hf_0 hf_1 hf_l hr_0 hr_1 hr_l hr_f0 hr_f1
  go_region_held3 (fun w' => w'.cell? ⟨w1.heap.size, 0, none⟩ = some (.bool sf) ∧ w'.cell? ⟨w1.heap.size, 1, none⟩ = some (.slice Bf (dl f.natAbs) ef))
    (refine ⟨(?_ : At _ w1.heap.size [.bool sf, .slice Bf (dl f.natAbs) ef]).c0, (?_ : At _ w1.heap.size [.bool sf, .slice Bf (dl f.natAbs) ef]).c1⟩ <;> (repeat (first | with_reducible exact HF | (with_reducible refine At.dr ?_) | (with_reducible refine At.al ?_ _) | (with_reducible refine At.far ?_ (by omega) _))))
    (first | (go_at_call 116; (with_reducible refine (CO.out _).mono ?_); rintro e w4 ⟨Bo, eo, rfl, zo, hbk⟩; (with_reducible (replace HB := HB.dr.up hbk; replace HR := HR.dr.up hbk; replace HF := HF.dr.up hbk; replace zf := zf.dr.up hbk))) | (go_at_call 120; (with_reducible refine (CA.out _ _ _ _ _ zf zo).mono ?_); rintro e w5 ⟨Bt, et, rfl, zt, hbk⟩; (with_reducible (replace HB := HB.up hbk; replace HR := HR.up hbk; replace HF := HF.up hbk)); have hr_0 := HR.c0; have hr_1 := HR.c1; have hr_l := HR.lt; have hr_f0 := HR.f0; have hr_f1 := HR.f1; have lf := HF.lt; have hne := (show w1.heap.size ≠ W.heap.size + 1 + 1 by omega)) | fail)
  go_wp2_with fail
  refine bodyPost_ret (v := .agg #[.bool st, .slice Bt (dl t.natAbs) et]) (by simp [results, Tryz.results68, go_sem, hr_0, hr_1]) rfl ?_
  rw [HS.out] at zt ⊢
  exact ret_z HB (by omega) HR now2 zt
set_option maxHeartbeats 8000000 in
theorem whole_d (hz : ZA W b A n c p) (hq : Nm W A' n' c' q) (hm : 1 ≤ m ∧ m ≤ 7) (bp : p.natAbs < W32 ^ K) (bq : q < W32 ^ K) (hK : K ≤ 20000) (h0 : q ≠ 0) (h1' : ¬ p % (q : Int) = 0) (h2' : ¬ rdUp m (p / (q : Int)) (p % (q : Int)).natAbs q = true) : Calls Tryz.prog 68 #[.agg #[.bool b, .slice A n c], .agg #[.slice A' n' c'], .int .i64 m] W (ZR W (rdZ m p q)) := by
  obtain ⟨f, hf⟩ : ∃ f, p / (q : Int) = f := ⟨_, rfl⟩
  obtain ⟨r, hr⟩ : ∃ r, p % (q : Int) = r := ⟨_, rfl⟩
  obtain ⟨t, ht⟩ : ∃ t, rdZ m p q = t := ⟨_, rfl⟩
  rw [ht]
  unfold rdZ at ht
  rw [if_neg h0, hf, hr] at ht
  have bf : f.natAbs < W32 ^ K := by rw [← hf]; exact Nat.lt_of_le_of_lt (nabs_div_le p q) bp
  have br : r.natAbs < W32 ^ K := by
    have h2 := Int.emod_nonneg p (by omega : (q : Int) ≠ 0)
    have h3 := Int.emod_lt_of_pos p (by omega : (0 : Int) < (q : Int))
    omega
  have hr0 : 0 ≤ r := by rw [← hr]; exact Int.emod_nonneg p (by omega : (q : Int) ≠ 0)
  have df : dl f.natAbs ≤ 99998 := Nat.le_trans (dl_le bf) (by omega)
  have dr : dl (r.natAbs + r.natAbs) ≤ 100000 := Nat.le_trans (dl_le (bd_add br br)) (by omega)
  rw [hr] at h1'
  rw [hf, hr] at h2'
  obtain ⟨sf, hsf⟩ : ∃ x, x = decide (f < 0) := ⟨_, rfl⟩
  obtain ⟨sr, hsr⟩ : ∃ x, x = decide (r < 0) := ⟨_, rfl⟩
  obtain ⟨st, hst⟩ : ∃ x, x = decide (t < 0) := ⟨_, rfl⟩
  have CD : Hid (∀ W', Bel W W' → Calls Tryz.prog 117 #[.agg #[.bool b, .slice A n c], .agg #[.bool false, .slice A' n' c']] W' (ZDivS W' sf sr f r)) := fun W' hb => by
    rw [hsf, hsr]
    exact zdiv_h (hz.up hb) (za_of (b := false) (hq.up hb)) (by rw [zi_false]; omega) (Nat.le_trans (dl_le bp) (by omega)) (by rw [zi_false]; exact hf) (by rw [zi_false]; exact hr)
  have CS : Hid (∀ W' B e, ZA W' sr B (dl r.natAbs) e r → Calls Tryz.prog 118 #[.agg #[.bool sr, .slice B (dl r.natAbs) e]] W' (IntPost W' 1)) := fun W' B e h1 => sign_h h1 (Int.sign_eq_one_of_pos (by omega))
  have CR : Hid (∀ W' B e B' e', Bel W W' → ZA W' sf B (dl f.natAbs) e f → Nm W' B' (dl r.natAbs) e' r.natAbs → Calls Tryz.prog 119 #[.agg #[.bool sf, .slice B (dl f.natAbs) e], .agg #[.slice B' (dl r.natAbs) e'], .agg #[.slice A' n' c'], .int .i64 m] W' (RetB W' false)) := fun W' B e B' e' hb h1 h2 => by
    have h3 := rises_h h1 h2 (hq.up hb.hid) (by omega) hm dr
    rwa [Bool.eq_false_iff.2 h2'] at h3
  have HT : t = f := by rw [← ht, if_neg h1', if_neg h2']
  have HT2 := hide HT
  clear HT
  have HS := hide hst
  have HSF := hide hsf
  clear hz hq hm bp bq hK h0 hf hr ht bf br hr0 df dr hsf hsr hst h1' h2'
  have HB := Bel.refl W
  go_enter Tryz.func68, Tryz.ntmps68
  go_wp2_with (first | (go_at_call 117; (with_reducible refine (CD.out _ (((HB.al _).al _).al _)).mono ?_); rintro e w1 ⟨Bf, ef, Br, er, rfl, zf, zr, hbk⟩; (with_reducible (have H1 : At w1 (W.heap.size + 1) [.slice A' n' c'] := At.up ((at_new1 _ _ _ _).al _) hbk; have HR : At w1 (W.heap.size + 1 + 1) [.bool false, .slice none 0 0] := At.up (at_new2 _ _ _ _ _) hbk; replace HB := (((HB.al _).al _).al _).up hbk)); have hr_0 := HR.c0; have hr_1 := HR.c1; have hr_l := HR.lt; have h1_0 := H1.c0; have h1_l := H1.lt; have HRL := HR.lt) | (go_at_call 118; (with_reducible refine (CS.out _ _ _ ((zr.al _).al _)).mono ?_); rintro e w2 ⟨rfl, hbk⟩; (with_reducible (have HF : At w2 w1.heap.size [.bool sf, .slice Bf (dl f.natAbs) ef] := At.up ((at_new0 _ _ _).al _) hbk; have HT : At w2 (w1.heap.size + 1) [.bool sr, .slice Br (dl r.natAbs) er] := At.up (at_new1 _ _ _ _) hbk; replace HB := ((HB.al _).al _).up hbk; replace HR := ((HR.al _).al _).up hbk; replace H1 := ((H1.al _).al _).up hbk; replace zf := ((zf.al _).al _).up hbk; replace zr := ((zr.al _).al _).up hbk)); clear hr_0 hr_1 hr_l h1_0 h1_l; have hf_0 := HF.c0; have hf_1 := HF.c1; have hf_l := HF.lt; have ht_0 := HT.c0; have ht_1 := HT.c1; have ht_l := HT.lt; have hr_0 := HR.c0; have hr_1 := HR.c1; have hr_l := HR.lt; have hr_f0 := HR.f0; have hr_f1 := HR.f1; have h1_0 := H1.c0; have h1_l := H1.lt; have zn := zr.1) | (go_at_call 119; (with_reducible refine (CR.out _ _ _ _ _ HB zf zn).mono ?_); rintro e w3 ⟨rfl, hbk⟩; replace hbk := Bel.hid hbk; (with_reducible (replace HB := HB.up hbk; replace HR := HR.up hbk; replace HF := HF.up hbk; replace HT := HT.up hbk; replace H1 := H1.up hbk; replace zf := zf.up hbk)); clear hf_0 hf_1 hf_l ht_0 ht_1 ht_l hr_0 hr_1 hr_l hr_f0 hr_f1 h1_0 h1_l; have hf_0 := HF.c0; have hf_1 := HF.c1; have hf_l := HF.lt; have hr_0 := HR.c0; have hr_1 := HR.c1; have hr_l := HR.lt; have hr_f0 := HR.f0; have hr_f1 := HR.f1) | fail)
  rw [HT2.out]
  refine bodyPost_ret (v := .agg #[.bool sf, .slice Bf (dl f.natAbs) ef]) (by simp [results, Tryz.results68, go_sem, hr_0, hr_1]) rfl ?_
  rw [HSF.out] at zf ⊢
  exact ret_z HB (by omega) HR now2 zf
theorem whole_r (hz : ZA W b A n c p) (hq : Nm W A' n' c' q) (hm : 1 ≤ m ∧ m ≤ 7) (bp : p.natAbs < W32 ^ K) (bq : q < W32 ^ K) (hK : K ≤ 20000) : Calls Tryz.prog 68 #[.agg #[.bool b, .slice A n c], .agg #[.slice A' n' c'], .int .i64 m] W (ZR W (rdZ m p q)) := by
  by_cases h0 : q = 0
  · exact whole_0 hz hq hm bp bq hK h0
  · by_cases h1 : p % (q : Int) = 0
    · exact whole_i hz hq hm bp bq hK h0 h1
    · by_cases h2 : rdUp m (p / (q : Int)) (p % (q : Int)).natAbs q = true
      · exact whole_u hz hq hm bp bq hK h0 h1 h2
      · exact whole_d hz hq hm bp bq hK h0 h1 h2
end
end Go.Proofs.YtphnmccpcjecnaaGreatDoor
end

section
/- Package round: power, unit, multiple. Conditions: terms of at most 6000 words, powers of at most 2000. -/
open Go.RowKit
set_option maxRecDepth 100000
namespace Go.Proofs.YtphnmccpcjecnaaGreatDoor
/-- What a call leaves that returns a numeral: the number v, s digits behind the point. -/
def DvR (W : World) (b : Bool) (v : Nat) (s : Int) (e : Ending) (w' : World) : Prop := ∃ A c, e = .returned (.agg #[.bool b, .slice A (dl v) c, .int .i64 s]) ∧ Nm w' A (dl v) c v ∧ Hid (Below W.heap.size W w')
theorem At.uput3 {W : World} {p : Nat} {v0 v1 v2 : Value} (h : At W p [v0, v1, v2]) (x y z : Value) : At (((W.setCell ⟨p, 0, none⟩ x).setCell ⟨p, 1, none⟩ y).setCell ⟨p, 2, none⟩ z) p [x, y, z] := h.put3 x y z
theorem Nm.putd {W : World} {p : Nat} {A : Option Addr} {n c m : Nat} (h : Nm W A n c m) (hp : At W p [.bool false, .slice none 0 0, .int .i64 0]) (b : Bool) (B : Option Addr) (k d : Nat) (s : Int) :
    Nm (((W.setCell ⟨p, 0, none⟩ (.bool b)).setCell ⟨p, 1, none⟩ (.slice B k d)).setCell ⟨p, 2, none⟩ (.int .i64 s)) A n c m := h.putD hp nowD
theorem Bel.uput3 {w W : World} (h : Bel w W) {p : Nat} (hp : w.heap.size ≤ p) (x y z : Value) : Bel w (((W.setCell ⟨p, 0, none⟩ x).setCell ⟨p, 1, none⟩ y).setCell ⟨p, 2, none⟩ z) := below3 h hp x y z
theorem tenk_lt (k : Nat) : 10 ^ k < W32 ^ (k + 1) := by
  have h1 : 10 ^ k ≤ W32 ^ k := Nat.pow_le_pow_left (by decide) k
  have h2 : W32 ^ k < W32 ^ (k + 1) := Nat.pow_lt_pow_right (by decide) (by omega)
  omega
theorem tenk_dl {k : Nat} (hk : k ≤ 2000) : dl (10 ^ k) ≤ 2001 := Nat.le_trans (dl_le (tenk_lt k)) (Nat.succ_le_succ hk)
section
variable {W : World} {b b' : Bool} {A A' A2 : Option Addr} {n n' n2 c c' c2 m2 s K : Nat} {m : Int} {r : Rat}
theorem rpower_h {k : Nat} (hk : k ≤ 2000) : Calls Tryz.prog 122 #[.int .i64 (k : Int)] W (NumR W (10 ^ k)) := by
  obtain ⟨u, hu⟩ : ∃ u, u = 10 ^ k := ⟨_, rfl⟩
  have CO : Hid (∀ W', Calls Tryz.prog 102 #[.int .u64 10] W' (NumR W' 10)) := fun W' => of_h (v := 10) (by omega)
  have CP : Hid (∀ W' B e, Nm W' B (dl 10) e 10 → Calls Tryz.prog 104 #[.agg #[.slice B (dl 10) e], .int .i64 (k : Int)] W' (NumR W' u)) := fun W' B e h => pow_h h (by omega) (fun i hi => Nat.le_trans (tenk_dl (k := i) (by omega)) (by decide)) hu.symm
  have HU := hide hu
  clear hu
  have HB := Bel.refl W
  clear hk
  go_enter Tryz.func122, Tryz.ntmps122
  go_wp2_with (first | (go_at_call 102; (with_reducible refine (CO.out _).mono ?_); rintro e w1 ⟨B, e1, rfl, nb, hbk⟩; have HR := At.up (at_new0 _ _ _) hbk; replace HB := (HB.al _).up hbk) | (go_at_call 104; (with_reducible refine (CP.out _ _ _ nb).mono ?_); rintro e w2 ⟨B2, e2, rfl, nb2, hbk⟩; replace HB := HB.up hbk; replace HR := HR.up hbk; have hr_0 := HR.c0; have hr_l := HR.lt; have hr_f0 := HR.f0) | fail)
  refine bodyPost_ret (v := .agg #[.slice B2 (dl u) e2]) (by simp [results, Tryz.results122, go_sem, hr_0]) rfl ?_
  rw [HU.out]
  exact ret_n HB (Nat.le_refl _) HR now1 (by rw [← HU.out]; exact nb2)
theorem ret_d {w2 : World} {B : Option Addr} {d p v : Nat} {sg : Bool} {k : Int} (hW : Bel W w2) (hp : W.heap.size ≤ p) (hR : At w2 p [.bool false, .slice none 0 0, .int .i64 0]) (hn : Nm w2 B (dl v) d v) :
    DvR W sg v k (.returned (.agg #[.bool sg, .slice B (dl v) d, .int .i64 k])) (((w2.setCell ⟨p, 0, none⟩ (.bool sg)).setCell ⟨p, 1, none⟩ (.slice B (dl v) d)).setCell ⟨p, 2, none⟩ (.int .i64 k)) :=
  ⟨B, d, rfl, hn.putd hR _ _ _ _ _, hW.uput3 hp _ _ _⟩
theorem unit_p (hs : (0 : Int) ≤ (s : Int)) : Calls Tryz.prog 70 #[.int .i64 (s : Int)] W (DvR W false 1 (s : Int)) := by
  have C1 : Hid (∀ W', Calls Tryz.prog 102 #[.int .u64 1] W' (NumR W' 1)) := fun W' => of_h (v := 1) (by omega)
  have h1 : decide ((s : Int) < 0) = false := decide_eq_false (by omega)
  have HB := Bel.refl W
  go_enter Tryz.func70, Tryz.ntmps70
  go_wp2_with (first | (go_at_call 102; (with_reducible refine (C1.out _).mono ?_); rintro e w1 ⟨B, e1, rfl, nb, hbk⟩; have HR := At.up (at_new0 _ _ _) hbk; replace HB := (HB.al _).up hbk; have hr_0 := HR.c0; have hr_1 := HR.c1; have hr_2 := HR.c2; have hr_l := HR.lt; have hr_f0 := HR.f0; have hr_f1 := HR.f1; have hr_f2 := HR.f2) | fail)
  refine bodyPost_ret (v := .agg #[.bool false, .slice B (dl 1) e1, .int .i64 (s : Int)]) (by simp [results, Tryz.results70, go_sem, hr_0, hr_1, hr_2]) rfl ?_
  exact ret_d HB (Nat.le_refl _) HR nb
theorem unit_n {k : Nat} {i : Int} (hk : k ≤ 2000) (hi : -(k : Int) = i) (h0 : 0 < k) : Calls Tryz.prog 70 #[.int .i64 i] W (DvR W false (10 ^ k) 0) := by
  obtain ⟨u, hu⟩ : ∃ u, u = 10 ^ k := ⟨_, rfl⟩
  have CP : Hid (∀ W', Calls Tryz.prog 122 #[.int .i64 (k : Int)] W' (NumR W' u)) := fun W' => by rw [hu]; exact rpower_h hk
  have h1 : decide (i < 0) = true := decide_eq_true (by omega)
  have h1' : i < 0 := by omega
  have h2 : -i = (k : Int) := by omega
  have h3 : wrap64 (k : Int) = (k : Int) := IntWalk.wrap64_in _ (by omega)
  rw [← hu]
  clear hu hk hi h0
  have HB := Bel.refl W
  go_enter Tryz.func70, Tryz.ntmps70
  go_wp2_with (first | (go_at_call 122; (with_reducible refine (CP.out _).mono ?_); rintro e w1 ⟨B, e1, rfl, nb, hbk⟩; have HR := At.up (at_new0 _ _ _) hbk; replace HB := (HB.al _).up hbk; have hr_0 := HR.c0; have hr_1 := HR.c1; have hr_2 := HR.c2; have hr_l := HR.lt; have hr_f0 := HR.f0; have hr_f1 := HR.f1; have hr_f2 := HR.f2) | fail)
  refine bodyPost_ret (v := .agg #[.bool false, .slice B (dl u) e1, .int .i64 0]) (by simp [results, Tryz.results70, go_sem, hr_0, hr_1, hr_2]) rfl ?_
  exact ret_d HB (Nat.le_refl _) HR nb
set_option maxHeartbeats 16000000 in
theorem multiple_h (h : QA W b A n c A' n' c' r K) (hs : Nm W A2 n2 c2 m2) (bs : m2 < W32 ^ K) (hsc : s ≤ 60) (hm : 1 ≤ m ∧ m ≤ 7) (hK0 : 0 < K) (hK : K ≤ 6000) : Calls Tryz.prog 69 #[.agg #[.bool b, .slice A n c, .slice A' n' c'], .agg #[.bool b', .slice A2 n2 c2, .int .i64 (s : Int)], .int .i64 m] W (DvR W (decide (rdR m (r * mkRat (10 ^ s : Nat) m2) < 0)) ((rdR m (r * mkRat (10 ^ s : Nat) m2)).natAbs * m2) (s : Int)) := by
  obtain ⟨z, d, hz, hd, hr⟩ := h
  obtain ⟨p, hp⟩ : ∃ p, p = 10 ^ s := ⟨_, rfl⟩
  obtain ⟨x, hx⟩ : ∃ x : Int, z * (p : Int) = x := ⟨_, rfl⟩
  obtain ⟨y, hy⟩ : ∃ y : Nat, d * m2 = y := ⟨_, rfl⟩
  obtain ⟨t, ht⟩ : ∃ t, rdZ m x y = t := ⟨_, rfl⟩
  have HT : rdR m (r * mkRat (10 ^ s : Nat) m2) = t := by
    rw [← ht, ← hx, ← hy, rdZ_mk, ← hr.out.1, mul_mk, hp]
  rw [HT]
  obtain ⟨v, hv⟩ : ∃ v : Nat, t.natAbs * m2 = v := ⟨_, rfl⟩
  rw [hv]
  have bp : p < W32 ^ 61 := by rw [hp]; exact Nat.lt_of_lt_of_le (tenk_lt s) (Nat.pow_le_pow_right (by decide) (by omega))
  have bx : x.natAbs < W32 ^ (K + 61) := by rw [← hx]; exact bd_zmul hr.out.2.1 bp
  have by_ : y < W32 ^ (K + K) := by rw [← hy]; exact bd_mul hr.out.2.2 bs
  have bt : t.natAbs ≤ x.natAbs + 1 := by
    rw [← ht]
    have h1 := nabs_div_le x y
    unfold rdZ
    split
    · simp
    · split
      · omega
      · split <;> omega
  have bt2 : t.natAbs < W32 ^ (K + 62) := by
    have h1 : W32 ^ (K + 61) + 1 ≤ W32 ^ (K + 62) := Nat.pow_lt_pow_right (by decide) (by omega)
    omega
  have bv : v < W32 ^ (K + 62 + K) := by rw [← hv]; exact bd_mul bt2 bs
  have dv : dl v ≤ 100000 := Nat.le_trans (dl_le bv) (by omega)
  obtain ⟨sx, hsx⟩ : ∃ u, u = decide (x < 0) := ⟨_, rfl⟩
  obtain ⟨st, hst⟩ : ∃ u, u = decide (t < 0) := ⟨_, rfl⟩
  have CP : Hid (∀ W', Calls Tryz.prog 122 #[.int .i64 (s : Int)] W' (NumR W' p)) := fun W' => by rw [hp]; exact rpower_h (by omega)
  have CM : Hid (∀ W' B e, Bel W W' → Nm W' B (dl p) e p → Calls Tryz.prog 121 #[.agg #[.bool b, .slice A n c], .agg #[.bool false, .slice B (dl p) e]] W' (ZRu W' sx x)) := fun W' B e hb hn => by
    rw [hsx]
    exact zmul_h (hz.up hb.hid) (za_of (b := false) hn) (by rw [zi_false]; exact hx) (Nat.le_trans (dl_le bx) (by omega))
  have CN : Hid (∀ W', Bel W W' → Calls Tryz.prog 51 #[.agg #[.slice A' n' c'], .agg #[.slice A2 n2 c2]] W' (NumR W' y)) := fun W' hb => mul_h (hd.up hb.hid) (hs.up hb.hid) hy (Nat.le_trans (dl_le by_) (by omega))
  have CW : Hid (∀ W' B e B' e', ZA W' sx B (dl x.natAbs) e x → Nm W' B' (dl y) e' y → Calls Tryz.prog 68 #[.agg #[.bool sx, .slice B (dl x.natAbs) e], .agg #[.slice B' (dl y) e'], .int .i64 m] W' (ZRu W' st t)) := fun W' B e B' e' h1 h2 => by
    rw [hst, ← ht]
    have hb1 : x.natAbs < W32 ^ (K + K + 61) := Nat.lt_of_lt_of_le bx (Nat.pow_le_pow_right (by decide) (by omega))
    have hb2 : y < W32 ^ (K + K + 61) := Nat.lt_of_lt_of_le by_ (Nat.pow_le_pow_right (by decide) (by omega))
    exact whole_r h1 h2 hm hb1 hb2 (by omega)
  have CV : Hid (∀ W' B e, Bel W W' → Nm W' B (dl t.natAbs) e t.natAbs → Calls Tryz.prog 51 #[.agg #[.slice B (dl t.natAbs) e], .agg #[.slice A2 n2 c2]] W' (NumR W' v)) := fun W' B e hb h1 => mul_h h1 (hs.up hb.hid) hv dv
  rw [← hst]
  clear hz hd hr hs bs hsc hm hK hK0 hp hx hy ht HT hv bp bx by_ bt bt2 bv dv hsx hst
  have HB := Bel.refl W
  go_enter Tryz.func69, Tryz.ntmps69
  go_wp2_with fail
  obtain ⟨W1, hW1⟩ : ∃ X, X = ((W.alloc (.cells #[.bool b, .slice A n c, .slice A' n' c'] 30)).alloc (.cells #[.bool b', .slice A2 n2 c2, .int .i64 (s : Int)] 26)).alloc (.cells #[.bool false, .slice none 0 0, .int .i64 0] 26) := ⟨_, rfl⟩
  rw [← hW1]
  have H0 : At W1 W.heap.size [.bool b, .slice A n c, .slice A' n' c'] := by rw [hW1]; exact ((at_new0 _ _ _).al _).al _
  have H1 : At W1 (W.heap.size + 1) [.bool b', .slice A2 n2 c2, .int .i64 (s : Int)] := by rw [hW1]; exact (at_new1 _ _ _ _).al _
  have HR : At W1 (W.heap.size + 1 + 1) [.bool false, .slice none 0 0, .int .i64 0] := by rw [hW1]; exact at_new2 _ _ _ _ _
  replace HB : Bel W W1 := by rw [hW1]; exact ((HB.al _).al _).al _
  clear hW1
  have l0 := H0.lt
  have l1 := H1.lt
  have l2 := HR.lt
  go_cut [7] from 9 to 15 (fun o w => ∃ p B e, o = .pointer (some ⟨p, 0, none⟩) ∧ W.heap.size + 1 + 1 < p ∧ At w p [.bool sx, .slice B (dl x.natAbs) e] ∧ ZA w sx B (dl x.natAbs) e x ∧ Bel W1 w)
  case first =>
    have HW := Bel.refl W1
    go_region_held3 (fun w' => w'.cell? ⟨W.heap.size, 0, none⟩ = some (.bool b) ∧ w'.cell? ⟨W.heap.size, 1, none⟩ = some (.slice A n c) ∧ w'.cell? ⟨W.heap.size, 2, none⟩ = some (.slice A' n' c') ∧ w'.cell? ⟨W.heap.size + 1, 0, none⟩ = some (.bool b') ∧ w'.cell? ⟨W.heap.size + 1, 1, none⟩ = some (.slice A2 n2 c2) ∧ w'.cell? ⟨W.heap.size + 1, 2, none⟩ = some (.int .i64 (s : Int)))
      (refine ⟨(?_ : At _ W.heap.size [.bool b, .slice A n c, .slice A' n' c']).c0, (?_ : At _ W.heap.size [.bool b, .slice A n c, .slice A' n' c']).c1, (?_ : At _ W.heap.size [.bool b, .slice A n c, .slice A' n' c']).c2, (?_ : At _ (W.heap.size + 1) [.bool b', .slice A2 n2 c2, .int .i64 (s : Int)]).c0, (?_ : At _ (W.heap.size + 1) [.bool b', .slice A2 n2 c2, .int .i64 (s : Int)]).c1, (?_ : At _ (W.heap.size + 1) [.bool b', .slice A2 n2 c2, .int .i64 (s : Int)]).c2⟩ <;> (repeat (first | with_reducible exact H0 | with_reducible exact H1 | (with_reducible refine At.dr ?_) | (with_reducible refine At.al ?_ _) | (with_reducible refine At.far ?_ (by omega) _))))
      (first | (go_at_call 122; (with_reducible refine (CP.out _).mono ?_); rintro e w2 ⟨Bp, ep, rfl, np, hbk⟩; (with_reducible (replace HB := HB.dr.up hbk; replace HW := HW.dr.up hbk; replace H0 := H0.dr.up hbk; replace H1 := H1.dr.up hbk)); have lz0 := H0.lt; have lz1 := H1.lt; (try have lz2 := HP0.lt); have zs1 := Below.size HW) | (go_at_call 122; (with_reducible refine (CP.out _).mono ?_); rintro e w2 ⟨Bp, ep, rfl, np, hbk⟩; (with_reducible (have HP0 := At.up (at_new0 _ [.bool false, .slice none 0 0] _).dr hbk; replace HB := (HB.al _).dr.up hbk; replace HW := (HW.al _).dr.up hbk; replace H0 := (H0.al _).dr.up hbk; replace H1 := (H1.al _).dr.up hbk)); have lz0 := H0.lt; have lz1 := H1.lt; (try have lz2 := HP0.lt); have zs1 := Below.size HW) | (go_at_call 121; (with_reducible refine (CM.out _ _ _ HB np).mono ?_); rintro e w3 ⟨Bx, ex, rfl, zx, hbk⟩; (with_reducible (replace HB := HB.up hbk; replace HW := HW.up hbk; replace H0 := H0.up hbk; replace H1 := H1.up hbk)); (try (with_reducible replace HP0 := HP0.up hbk)); (try have hp0_0 := HP0.c0); (try have hp0_1 := HP0.c1); (try have fhp0_0 := HP0.f0); (try have fhp0_1 := HP0.f1); (try have lhp0 := HP0.lt); (try have hq0_0 := HQ0.c0); (try have hq0_1 := HQ0.c1); (try have fhq0_0 := HQ0.f0); (try have fhq0_1 := HQ0.f1); (try have lhq0 := HQ0.lt); have lz3 := H0.lt; have lz4 := H1.lt; have zs2 := Below.size HW) | (go_at_call 121; (with_reducible refine (CM.out _ _ _ (HB.al _) (np.al _)).mono ?_); rintro e w3 ⟨Bx, ex, rfl, zx, hbk⟩; (with_reducible (have HQ0 := At.up (at_new0 _ [.bool false, .slice none 0 0] _) hbk; replace HB := (HB.al _).up hbk; replace HW := (HW.al _).up hbk; replace H0 := (H0.al _).up hbk; replace H1 := (H1.al _).up hbk)); (try (with_reducible replace HP0 := (HP0.al _).up hbk)); (try have hp0_0 := HP0.c0); (try have hp0_1 := HP0.c1); (try have fhp0_0 := HP0.f0); (try have fhp0_1 := HP0.f1); (try have lhp0 := HP0.lt); (try have hq0_0 := HQ0.c0); (try have hq0_1 := HQ0.c1); (try have fhq0_0 := HQ0.f0); (try have fhq0_1 := HQ0.f1); (try have lhq0 := HQ0.lt); have lz3 := H0.lt; have lz4 := H1.lt; have zs2 := Below.size HW) | fail)
    all_goals
      go_wp2_with fail
      go_meet
      case rel =>
        have zn := zx.1
        refine ⟨_, _, _, rfl, (by first | omega | (show _ < W1.heap.size; omega) | (show _ < wc.heap.size; omega)), ?_, zx.mv ?_, ?_⟩ <;> (repeat (first | with_reducible exact zn | with_reducible exact HW | with_reducible exact HP0 | with_reducible exact HQ0 | with_reducible exact at_new0 _ _ _ | (with_reducible refine Bel.dr ?_) | (with_reducible refine Bel.al ?_ _) | (with_reducible refine Bel.put2 ?_ (by omega) _ _) | (with_reducible refine Nm.dr ?_) | (with_reducible refine Nm.al ?_ _) | (with_reducible refine Nm.putz ?_ ?_ _ _ _ _) | (with_reducible refine At.dr ?_) | (with_reducible refine At.al ?_ _) | (with_reducible refine At.put2 (v0 := .bool false) (v1 := .slice none 0 0) ?_ _ _) | (with_reducible refine At.far2 ?_ (by omega) _ _)))
  case rest =>
    obtain ⟨po, Bx, ex, rfl, hpo, HO, zx, hW⟩ := hcut
    replace HB := HB.up hW.hid
    replace H0 := H0.up hW.hid
    replace H1 := H1.up hW.hid
    replace HR := HR.up hW.hid
    clear hW l0 l1 l2
    have l0 := H0.lt
    have l1 := H1.lt
    have l2 := HR.lt
    have l3 := HO.lt
    go_wp2_with fail
    go_cut [8] from 16 to 23 (fun o w => ∃ p B e, o = .pointer (some ⟨p, 0, none⟩) ∧ W.heap.size + 1 + 1 < p ∧ At w p [.bool st, .slice B (dl t.natAbs) e] ∧ ZA w st B (dl t.natAbs) e t ∧ Bel wc w)
    case first =>
      have HW := Bel.refl wc
      go_region_held3 (fun w' => w'.cell? ⟨W.heap.size, 0, none⟩ = some (.bool b) ∧ w'.cell? ⟨W.heap.size, 1, none⟩ = some (.slice A n c) ∧ w'.cell? ⟨W.heap.size, 2, none⟩ = some (.slice A' n' c') ∧ w'.cell? ⟨W.heap.size + 1, 0, none⟩ = some (.bool b') ∧ w'.cell? ⟨W.heap.size + 1, 1, none⟩ = some (.slice A2 n2 c2) ∧ w'.cell? ⟨W.heap.size + 1, 2, none⟩ = some (.int .i64 (s : Int)) ∧ w'.cell? ⟨po, 0, none⟩ = some (.bool sx) ∧ w'.cell? ⟨po, 1, none⟩ = some (.slice Bx (dl x.natAbs) ex))
        (refine ⟨(?_ : At _ W.heap.size [.bool b, .slice A n c, .slice A' n' c']).c0, (?_ : At _ W.heap.size [.bool b, .slice A n c, .slice A' n' c']).c1, (?_ : At _ W.heap.size [.bool b, .slice A n c, .slice A' n' c']).c2, (?_ : At _ (W.heap.size + 1) [.bool b', .slice A2 n2 c2, .int .i64 (s : Int)]).c0, (?_ : At _ (W.heap.size + 1) [.bool b', .slice A2 n2 c2, .int .i64 (s : Int)]).c1, (?_ : At _ (W.heap.size + 1) [.bool b', .slice A2 n2 c2, .int .i64 (s : Int)]).c2, (?_ : At _ po [.bool sx, .slice Bx (dl x.natAbs) ex]).c0, (?_ : At _ po [.bool sx, .slice Bx (dl x.natAbs) ex]).c1⟩ <;> (repeat (first | with_reducible exact H0 | with_reducible exact H1 | with_reducible exact HO | (with_reducible refine At.dr ?_) | (with_reducible refine At.al ?_ _) | (with_reducible refine At.far ?_ (by omega) _))))
        (first | (go_at_call 51; (with_reducible refine (CN.out _ HB.dr).mono ?_); rintro e w4 ⟨By, ey, rfl, ny, hbk⟩; (with_reducible (replace HB := HB.dr.up hbk; replace HW := HW.dr.up hbk; replace H0 := H0.dr.up hbk; replace H1 := H1.dr.up hbk; replace HO := HO.dr.up hbk; replace zx := zx.dr.up hbk)); have lz0 := H0.lt; have lz1 := H1.lt; have lz5 := HO.lt; (try have lz2 := HP0.lt); have zs1 := Below.size HW) | (go_at_call 51; (with_reducible refine (CN.out _ (HB.al _).dr).mono ?_); rintro e w4 ⟨By, ey, rfl, ny, hbk⟩; (with_reducible (have HP0 := At.up (at_new0 _ [.bool false, .slice none 0 0] _).dr hbk; replace HB := (HB.al _).dr.up hbk; replace HW := (HW.al _).dr.up hbk; replace H0 := (H0.al _).dr.up hbk; replace H1 := (H1.al _).dr.up hbk; replace HO := (HO.al _).dr.up hbk; replace zx := (zx.al _).dr.up hbk)); have lz0 := H0.lt; have lz1 := H1.lt; have lz5 := HO.lt; (try have lz2 := HP0.lt); have zs1 := Below.size HW) | (go_at_call 68; (with_reducible refine (CW.out _ _ _ _ _ zx ny).mono ?_); rintro e w5 ⟨Bt, et, rfl, zt, hbk⟩; (with_reducible (replace HB := HB.up hbk; replace HW := HW.up hbk; replace H0 := H0.up hbk; replace H1 := H1.up hbk; replace HO := HO.up hbk)); (try (with_reducible replace HP0 := HP0.up hbk)); (try have hp0_0 := HP0.c0); (try have hp0_1 := HP0.c1); (try have fhp0_0 := HP0.f0); (try have fhp0_1 := HP0.f1); (try have lhp0 := HP0.lt); (try have hq0_0 := HQ0.c0); (try have hq0_1 := HQ0.c1); (try have fhq0_0 := HQ0.f0); (try have fhq0_1 := HQ0.f1); (try have lhq0 := HQ0.lt); have lz3 := H0.lt; have lz4 := H1.lt; have lz6 := HO.lt; have zs2 := Below.size HW) | (go_at_call 68; (with_reducible refine (CW.out _ _ _ _ _ (zx.al _) (ny.al _)).mono ?_); rintro e w5 ⟨Bt, et, rfl, zt, hbk⟩; (with_reducible (have HQ0 := At.up (at_new0 _ [.bool false, .slice none 0 0] _) hbk; replace HB := (HB.al _).up hbk; replace HW := (HW.al _).up hbk; replace H0 := (H0.al _).up hbk; replace H1 := (H1.al _).up hbk; replace HO := (HO.al _).up hbk)); (try (with_reducible replace HP0 := (HP0.al _).up hbk)); (try have hp0_0 := HP0.c0); (try have hp0_1 := HP0.c1); (try have fhp0_0 := HP0.f0); (try have fhp0_1 := HP0.f1); (try have lhp0 := HP0.lt); (try have hq0_0 := HQ0.c0); (try have hq0_1 := HQ0.c1); (try have fhq0_0 := HQ0.f0); (try have fhq0_1 := HQ0.f1); (try have lhq0 := HQ0.lt); have lz3 := H0.lt; have lz4 := H1.lt; have lz6 := HO.lt; have zs2 := Below.size HW) | fail)
      all_goals
        go_wp2_with fail
        go_meet
        case rel =>
          have zn := zt.1
          refine ⟨_, _, _, rfl, (by first | omega | (show _ < W1.heap.size; omega) | (show _ < wc.heap.size; omega)), ?_, zt.mv ?_, ?_⟩ <;> (repeat (first | with_reducible exact zn | with_reducible exact HW | with_reducible exact HP0 | with_reducible exact HQ0 | with_reducible exact at_new0 _ _ _ | (with_reducible refine Bel.dr ?_) | (with_reducible refine Bel.al ?_ _) | (with_reducible refine Bel.put2 ?_ (by omega) _ _) | (with_reducible refine Nm.dr ?_) | (with_reducible refine Nm.al ?_ _) | (with_reducible refine Nm.putz ?_ ?_ _ _ _ _) | (with_reducible refine At.dr ?_) | (with_reducible refine At.al ?_ _) | (with_reducible refine At.put2 (v0 := .bool false) (v1 := .slice none 0 0) ?_ _ _) | (with_reducible refine At.far2 ?_ (by omega) _ _)))
    case rest =>
      obtain ⟨pt, Bt, et, rfl, hpt, HT, zt, hW⟩ := hcut
      replace HB := HB.up hW.hid
      replace H0 := H0.up hW.hid
      replace H1 := H1.up hW.hid
      replace HR := HR.up hW.hid
      clear hW l0 l1 l2 l3 HO zx
      have l0 := H0.lt
      have l1 := H1.lt
      have l2 := HR.lt
      have l3 := HT.lt
      have nt := zt.1
      go_wp2_with fail
      go_region_held3 (fun w' => w'.cell? ⟨W.heap.size + 1, 0, none⟩ = some (.bool b') ∧ w'.cell? ⟨W.heap.size + 1, 1, none⟩ = some (.slice A2 n2 c2) ∧ w'.cell? ⟨W.heap.size + 1, 2, none⟩ = some (.int .i64 (s : Int)) ∧ w'.cell? ⟨pt, 0, none⟩ = some (.bool st) ∧ w'.cell? ⟨pt, 1, none⟩ = some (.slice Bt (dl t.natAbs) et))
        (refine ⟨(?_ : At _ (W.heap.size + 1) [.bool b', .slice A2 n2 c2, .int .i64 (s : Int)]).c0, (?_ : At _ (W.heap.size + 1) [.bool b', .slice A2 n2 c2, .int .i64 (s : Int)]).c1, (?_ : At _ (W.heap.size + 1) [.bool b', .slice A2 n2 c2, .int .i64 (s : Int)]).c2, (?_ : At _ pt [.bool st, .slice Bt (dl t.natAbs) et]).c0, (?_ : At _ pt [.bool st, .slice Bt (dl t.natAbs) et]).c1⟩ <;> (repeat (first | with_reducible exact H1 | with_reducible exact HT | (with_reducible refine At.dr ?_) | (with_reducible refine At.al ?_ _) | (with_reducible refine At.far ?_ (by omega) _))))
        (first | (go_at_call 51; (with_reducible refine (CV.out _ _ _ HB.dr nt.dr).mono ?_); rintro e w6 ⟨Bv, ev, rfl, nv, hbk⟩; (with_reducible (replace HB := HB.dr.up hbk; replace H1 := H1.dr.up hbk; replace HR := HR.dr.up hbk; replace HT := HT.dr.up hbk)); have hr_0 := HR.c0; have hr_1 := HR.c1; have hr_2 := HR.c2; have hr_l := HR.lt; have hr_f0 := HR.f0; have hr_f1 := HR.f1; have hr_f2 := HR.f2) | fail)
      go_wp2_with fail
      refine bodyPost_ret (v := .agg #[.bool st, .slice Bv (dl v) ev, .int .i64 (s : Int)]) (by simp [results, Tryz.results69, go_sem, hr_0, hr_1, hr_2]) rfl ?_
      exact ret_d HB (by omega) HR nv
end
end Go.Proofs.YtphnmccpcjecnaaGreatDoor
end
