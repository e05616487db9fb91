/- Several texts in one, each with its own sentence and conditions. -/
import Derived.Test.YtmiklffjffdkgaaGreatDoorGRwbc13
import Derived.Test.YtmiklffjffdkgaaGreatDoorGRwbc20
import Derived.Deep.RegionHeld3
import Derived.Test.YtmiklffjffdkgaaGreatDoorGRwbc25
section
/- Rounding in numbers: which integer beside p / q a mode takes; how near it is. No conditions. -/
open Go.RowKit
set_option maxRecDepth 100000
namespace Go.Proofs.YtmiklffjffdkgaaGreatDoor
/-- Where the distances don't tell: does the mode m take the integer above f? -/
def lnUp (m f : Int) : Bool :=
  if m = 1 ∨ m = 5 then decide (f < 0) else if m = 2 ∨ m = 6 then !decide (f < 0) else if m = 7 then decide (f % 2 ≠ 0) else decide (m = 4)
/-- f + r / q is no integer: does the mode m take the integer above f? -/
def rdUp (m f : Int) (r q : Nat) : Bool :=
  if m ≤ 4 then lnUp m f else if r + r < q then false else if q < r + r then true else lnUp m f
/-- p / q rounded by the mode m; over 0 it is 0. -/
def rdZ (m p : Int) (q : Nat) : Int :=
  if q = 0 then 0 else if p % (q : Int) = 0 then p / (q : Int) else if rdUp m (p / (q : Int)) (p % (q : Int)).natAbs q = true then p / (q : Int) + 1 else p / (q : Int)
/-- A fraction rounded by the mode m. -/
def rdR (m : Int) (x : Rat) : Int := rdZ m x.num x.den
theorem rdUp_mul {m f : Int} {r q g : Nat} (hg : 0 < g) : rdUp m f (r * g) (q * g) = rdUp m f r q := by
  unfold rdUp
  have e1 : (r * g + r * g < q * g) = (r + r < q) := by rw [← Nat.add_mul]; exact propext (Nat.mul_lt_mul_right hg)
  have e2 : (q * g < r * g + r * g) = (q < r + r) := by rw [← Nat.add_mul]; exact propext (Nat.mul_lt_mul_right hg)
  simp only [e1, e2]
theorem rdZ_mul {m p : Int} {q g : Nat} (hg : 0 < g) : rdZ m (p * (g : Int)) (q * g) = rdZ m p q := by
  have hg' : (0 : Int) < (g : Int) := by omega
  unfold rdZ
  by_cases hq : q = 0
  · rw [if_pos hq, if_pos (by rw [hq, Nat.zero_mul])]
  have hq2 : q * g ≠ 0 := Nat.mul_ne_zero hq (by omega)
  rw [if_neg hq, if_neg hq2]
  have e1 : p * (g : Int) / ((q * g : Nat) : Int) = p / (q : Int) := by
    rw [Int.natCast_mul, Int.mul_comm p, Int.mul_comm (q : Int)]; exact Int.mul_ediv_mul_of_pos p (q : Int) hg'
  have e2 : p * (g : Int) % ((q * g : Nat) : Int) = p % (q : Int) * (g : Int) := by
    rw [Int.natCast_mul, Int.mul_comm p, Int.mul_comm (q : Int), Int.mul_emod_mul_of_pos p (q : Int) hg', Int.mul_comm]
  have e3 : (p % (q : Int) * (g : Int) = 0) = (p % (q : Int) = 0) := propext ⟨fun h => by
    rcases Int.mul_eq_zero.1 h with h | h
    · exact h
    · omega, fun h => by rw [h, Int.zero_mul]⟩
  have e4 : (p % (q : Int) * (g : Int)).natAbs = (p % (q : Int)).natAbs * g := by rw [Int.natAbs_mul, Int.natAbs_natCast]
  rw [e1, e2, e4, rdUp_mul hg]
  simp only [e3]
theorem rdZ_mk (m z : Int) (d : Nat) : rdZ m z d = rdR m (mkRat z d) := by
  by_cases hd : d = 0
  · subst hd
    rw [Rat.mkRat_zero]
    unfold rdR rdZ
    rw [if_pos rfl, if_neg (by decide)]
    rfl
  · obtain ⟨h1, h2, h3, h4, h5, h6⟩ := low_terms (z := z) (d := d) (by omega) rfl
    obtain ⟨g, hg⟩ : ∃ g, g = Nat.gcd z.natAbs d := ⟨_, rfl⟩
    rw [← hg] at h1 h2 h3 h4 h5
    have hden : d = (mkRat z d).den * g := by
      rw [h3]; exact (Nat.div_mul_cancel (Nat.dvd_of_mod_eq_zero h5)).symm
    have hx := mk_cross (z := z) (d := d) (by omega)
    have k1 : ∀ (num : Int) (den g d : Nat), num * (d : Int) = z * (den : Int) → d = den * g → 0 < den → z = num * (g : Int) := by
      rintro num den g d h rfl hp
      refine Int.eq_of_mul_eq_mul_right (by omega : (den : Int) ≠ 0) ?_
      rw [← h, Int.natCast_mul, Int.mul_assoc, Int.mul_comm (g : Int)]
    have k2 : ∀ (num : Int) (den g : Nat), z = num * (g : Int) → d = den * g → 0 < g → rdZ m z d = rdZ m num den := by
      rintro num den g rfl rfl hg
      exact rdZ_mul hg
    exact k2 _ _ g (k1 _ _ g d hx hden (mkRat z d).den_pos) hden h1
theorem rd_near {m p : Int} {q : Nat} (hq : 0 < q) : rdZ m p q * (q : Int) - p < (q : Int) ∧ -(q : Int) < rdZ m p q * (q : Int) - p ∧ (5 ≤ m → 2 * (rdZ m p q * (q : Int) - p) ≤ (q : Int) ∧ -(q : Int) ≤ 2 * (rdZ m p q * (q : Int) - p)) := by
  have h1 := Int.emod_add_mul_ediv p (q : Int)
  have h2 := Int.emod_nonneg p (by omega : (q : Int) ≠ 0)
  have h3 := Int.emod_lt_of_pos p (by omega : (0 : Int) < (q : Int))
  obtain ⟨f, hf⟩ : ∃ f, f = p / (q : Int) := ⟨_, rfl⟩
  obtain ⟨r, hr⟩ : ∃ r, r = p % (q : Int) := ⟨_, rfl⟩
  obtain ⟨X, hX⟩ : ∃ X, X = (q : Int) * f := ⟨_, rfl⟩
  unfold rdZ
  rw [if_neg (by omega), ← hf, ← hr]
  rw [← hr, ← hf, ← hX] at h1
  rw [← hr] at h2 h3
  by_cases h0 : r = 0
  · rw [if_pos h0, Int.mul_comm, ← hX]
    refine ⟨by omega, by omega, fun _ => ⟨by omega, by omega⟩⟩
  · rw [if_neg h0]
    by_cases hu : rdUp m f r.natAbs q = true
    · rw [if_pos hu, Int.add_mul, Int.one_mul, Int.mul_comm, ← hX]
      refine ⟨by omega, by omega, fun h5 => ?_⟩
      unfold rdUp at hu
      rw [if_neg (by omega)] at hu
      by_cases h6 : r.natAbs + r.natAbs < q
      · rw [if_pos h6] at hu; cases hu
      · exact ⟨by omega, by omega⟩
    · rw [if_neg hu, Int.mul_comm, ← hX]
      refine ⟨by omega, by omega, fun h5 => ?_⟩
      unfold rdUp at hu
      rw [if_neg (by omega)] at hu
      by_cases h6 : r.natAbs + r.natAbs < q
      · exact ⟨by omega, by omega⟩
      · rw [if_neg h6] at hu
        by_cases h7 : q < r.natAbs + r.natAbs
        · rw [if_pos h7] at hu; exact absurd rfl hu
        · exact ⟨by omega, by omega⟩
theorem rdR_int (m n : Int) : rdR m (n : Rat) = n := by
  unfold rdR rdZ
  rw [show ((n : Rat)).den = 1 from rfl, show ((n : Rat)).num = n from rfl, if_neg (by decide), if_pos (by omega)]
  omega
end Go.Proofs.YtmiklffjffdkgaaGreatDoor
end

section
/- Package dec: Rat. Conditions: numbers of at most 99999 words. -/
open Go.RowKit
set_option maxRecDepth 100000
namespace Go.Proofs.YtmiklffjffdkgaaGreatDoor
theorem At.sput3 {W : World} {p : Nat} {v0 v1 v2 : Value} (h : At W p [v0, v1, v2]) (x y z : Value) : At (((W.setCell ⟨p, 0, none⟩ x).setCell ⟨p, 1, none⟩ y).setCell ⟨p, 2, none⟩ z) p [x, y, z] := h.put3 x y z
/-- As QR, the sign by a name of its own. -/
def QRw (W : World) (sg : Bool) (r : Rat) (e : Ending) (w' : World) : Prop := ∃ A c A' c', e = .returned (.agg #[.bool sg, .slice A (dl r.num.natAbs) c, .slice A' (dl r.den) c']) ∧ ZA w' sg A (dl r.num.natAbs) c r.num ∧ Nm w' A' (dl r.den) c' r.den ∧ Hid (Below W.heap.size W w')
def OfYw (W : World) (sg : Bool) (r : Rat) (e : Ending) (w' : World) : Prop := ∃ A c A' c', e = .returned (.tuple #[.agg #[.bool sg, .slice A (dl r.num.natAbs) c, .slice A' (dl r.den) c'], .bool true]) ∧ ZA w' sg A (dl r.num.natAbs) c r.num ∧ Nm w' A' (dl r.den) c' r.den ∧ Hid (Below W.heap.size W w')
theorem noQ : ∀ x : Nat, Value.bool false ≠ U32 x := fun x h => by cases h
theorem Nm.putq {W : World} {p : Nat} {A : Option Addr} {n c m : Nat} (h : Nm W A n c m) (hp : At W p [.bool false, .slice none 0 0, .slice none 0 0]) (b : Bool) (B : Option Addr) (k d : Nat) (B' : Option Addr) (k' d' : Nat) :
    Nm (((W.setCell ⟨p, 0, none⟩ (.bool b)).setCell ⟨p, 1, none⟩ (.slice B k d)).setCell ⟨p, 2, none⟩ (.slice B' k' d')) A n c m := h.put3 hp now3
theorem Bel.put3 {w W : World} (h : Bel w W) {p : Nat} (hp : w.heap.size ≤ p) (x y z : Value) : Bel w (((W.setCell ⟨p, 0, none⟩ x).setCell ⟨p, 1, none⟩ y).setCell ⟨p, 2, none⟩ z) := below3 h hp x y z
section
variable {W : World} {b b0 : Bool} {A A0 : Option Addr} {n c m s n0 c0 : Nat} {s0 : Int} {r : Rat}
end
end Go.Proofs.YtmiklffjffdkgaaGreatDoor
end

section
/- Package round: Mode, isOdd, leans, rises. Conditions: numbers of at most 99998 words. -/
open Go.RowKit
set_option maxRecDepth 100000
namespace Go.Proofs.YtmiklffjffdkgaaGreatDoor
theorem call_named {P : Program} {f : FuncId} {args : Array Value} {X : World} {Q : Ending → World → Prop} (h : ∀ W', W' = X → Calls P f args W' Q) : Calls P f args X Q := h X rfl
theorem At.put2 {W : World} {p : Nat} {v0 v1 : Value} (h : At W p [v0, v1]) (x y : Value) : At ((W.setCell ⟨p, 0, none⟩ x).setCell ⟨p, 1, none⟩ y) p [x, y] := (h.put (i := 0) (by simp) x).put (i := 1) (by simp) y
theorem At.far2 {W : World} {p q : Nat} {vs : List Value} (h : At W p vs) (hq : q ≠ p) (x y : Value) : At ((W.setCell ⟨q, 0, none⟩ x).setCell ⟨q, 1, none⟩ y) p vs := (h.far hq x).far hq y
theorem Bel.put2 {w W : World} (h : Bel w W) {p : Nat} (hp : w.heap.size ≤ p) (x y : Value) : Bel w ((W.setCell ⟨p, 0, none⟩ x).setCell ⟨p, 1, none⟩ y) := (h.put hp x).put hp y
theorem Nm.putz {W : World} {p : Nat} {A : Option Addr} {n c m : Nat} (h : Nm W A n c m) (hp : At W p [.bool false, .slice none 0 0]) (b : Bool) (B : Option Addr) (k d : Nat) :
    Nm ((W.setCell ⟨p, 0, none⟩ (.bool b)).setCell ⟨p, 1, none⟩ (.slice B k d)) A n c m :=
  (h.put hp (i := 0) (by simp) now2 _).put (hp.put (i := 0) (by simp) (.bool b)) (i := 1) (by simp) now2 _
/-- As ZR, the sign by a name of its own. -/
def ZRu (W : World) (sg : Bool) (z : Int) (e : Ending) (w' : World) : Prop := ∃ A c, e = .returned (.agg #[.bool sg, .slice A (dl z.natAbs) c]) ∧ ZA w' sg A (dl z.natAbs) c z ∧ Hid (Below W.heap.size W w')
theorem ZA.mv {W W' : World} {b : Bool} {A : Option Addr} {n c : Nat} {z : Int} (h : ZA W b A n c z) (h1 : Nm W' A n c z.natAbs) : ZA W' b A n c z := ⟨h1, h.2⟩
def ZDivS (W : World) (sq sr : Bool) (q r : Int) (e : Ending) (w' : World) : Prop :=
  ∃ A c A' c', e = .returned (.tuple #[.agg #[.bool sq, .slice A (dl q.natAbs) c], .agg #[.bool sr, .slice A' (dl r.natAbs) c'], .bool true]) ∧ ZA w' sq A (dl q.natAbs) c q ∧ ZA w' sr A' (dl r.natAbs) c' r ∧ Hid (Below W.heap.size W w')
section
variable {W : World} {b b' : Bool} {A A' : Option Addr} {n n' c c' m m' q r : Nat} {z f : Int}
theorem mode_h {m : Int} : Calls Tryz.prog 11 #[.int .i64 m] W (RetB W (decide (1 ≤ m ∧ m ≤ 7))) := by
  have HB := Bel.refl W
  by_cases h1 : 1 ≤ m
  · by_cases h2 : m ≤ 7
    · rw [decide_eq_true (show 1 ≤ m ∧ m ≤ 7 from ⟨h1, h2⟩)]
      go_enter Tryz.func11, Tryz.ntmps11
      go_wp2
      go_ret
      exact ⟨rfl, HB⟩
    · rw [decide_eq_false (show ¬ (1 ≤ m ∧ m ≤ 7) from fun h => h2 h.2)]
      go_enter Tryz.func11, Tryz.ntmps11
      go_wp2
      go_ret
      exact ⟨rfl, HB⟩
  · rw [decide_eq_false (show ¬ (1 ≤ m ∧ m ≤ 7) from fun h => h1 h.1)]
    go_enter Tryz.func11, Tryz.ntmps11
    go_wp2
    go_ret
    exact ⟨rfl, HB⟩
set_option maxHeartbeats 8000000 in
theorem odd_h (h : ZA W b A n c z) (hd : dl z.natAbs ≤ 99999) : Calls Tryz.prog 112 #[.agg #[.bool b, .slice A n c]] W (RetB W (decide (z % 2 ≠ 0))) := by
  obtain ⟨k, hk⟩ : ∃ k, z / 2 = k := ⟨_, rfl⟩
  obtain ⟨v, hv⟩ : ∃ v, z % 2 = v := ⟨_, rfl⟩
  obtain ⟨u, hu⟩ : ∃ u, v.sign = u := ⟨_, rfl⟩
  obtain ⟨t, ht⟩ : ∃ t : Int, t = 2 := ⟨_, rfl⟩
  obtain ⟨bk, hbk'⟩ : ∃ x, x = decide (k < 0) := ⟨_, rfl⟩
  obtain ⟨bv, hbv⟩ : ∃ x, x = decide (v < 0) := ⟨_, rfl⟩
  obtain ⟨bt, hbt⟩ : ∃ x, x = decide (t < 0) := ⟨_, rfl⟩
  have CO : Hid (∀ W', Calls Tryz.prog 55 #[.int .i64 2] W' (ZRu W' bt t)) := fun W' => by rw [hbt, ht]; exact zof_h (by decide) (by decide)
  have CD : Hid (∀ W' B e, Bel W W' → ZA W' bt B (dl t.natAbs) e t → Calls Tryz.prog 62 #[.agg #[.bool b, .slice A n c], .agg #[.bool bt, .slice B (dl t.natAbs) e]] W' (ZDivS W' bk bv k v)) := fun W' B e hb h1 => by
    rw [hbk', hbv]
    exact zdiv_h (h.up hb) h1 (by rw [ht]; decide) hd (by rw [ht]; exact hk) (by rw [ht]; exact hv)
  have CS : Hid (∀ W' B e, ZA W' bv B (dl v.natAbs) e v → Calls Tryz.prog 63 #[.agg #[.bool bv, .slice B (dl v.natAbs) e]] W' (IntPost W' u)) := fun W' B e h1 => sign_h h1 hu
  have HU : Hid ((u != 0) = decide (v ≠ 0)) := by
    unfold Hid
    rw [← hu]
    rcases Int.lt_trichotomy v 0 with h0 | h0 | h0
    · rw [Int.sign_eq_neg_one_of_neg h0, decide_eq_true (by omega)]; rfl
    · rw [h0]; rfl
    · rw [Int.sign_eq_one_of_pos h0, decide_eq_true (by omega)]; rfl
  rw [hv]
  clear h hd hk hv hu ht hbk' hbv hbt
  have HB := Bel.refl W
  go_enter Tryz.func112, Tryz.ntmps112
  go_wp2_with fail
  obtain ⟨W1, hW1⟩ : ∃ X, X = W.alloc (.cells #[.bool b, .slice A n c] 26) := ⟨_, rfl⟩
  rw [← hW1]
  have HA : At W1 W.heap.size [.bool b, .slice A n c] := by rw [hW1]; exact at_new0 _ _ _
  replace HB : Bel W W1 := by rw [hW1]; exact HB.al _
  clear hW1
  have la := HA.lt
  go_region_held3 (fun w' => w'.cell? ⟨W.heap.size, 0, none⟩ = some (.bool b) ∧ w'.cell? ⟨W.heap.size, 1, none⟩ = some (.slice A n c))
    (refine ⟨(?_ : At _ W.heap.size [.bool b, .slice A n c]).c0, (?_ : At _ W.heap.size [.bool b, .slice A n c]).c1⟩ <;> (repeat (first | with_reducible exact HA | (with_reducible refine At.dr ?_) | (with_reducible refine At.al ?_ _) | (with_reducible refine At.far ?_ (by omega) _))))
    (first | (go_at_call 55; (with_reducible refine (CO.out _).mono ?_); rintro e w2 ⟨B2, e2, rfl, z2, hbk⟩; (with_reducible (replace HB := HB.dr.up hbk; replace HA := HA.dr.up hbk)); have lz0 := HA.lt; (try have lz2 := HP0.lt); (try have lz3 := HP1.lt)) | (go_at_call 55; (with_reducible refine (CO.out _).mono ?_); rintro e w2 ⟨B2, e2, rfl, z2, hbk⟩; (with_reducible (have HP0 := At.up (at_new0 _ [.bool false, .slice none 0 0] _).dr hbk; replace HB := (HB.al _).dr.up hbk; replace HA := (HA.al _).dr.up hbk)); have lz0 := HA.lt; (try have lz2 := HP0.lt); (try have lz3 := HP1.lt)) | (go_at_call 55; (with_reducible refine (CO.out _).mono ?_); rintro e w2 ⟨B2, e2, rfl, z2, hbk⟩; (with_reducible (have HP0 := At.up ((at_new0 _ [.bool false, .slice none 0 0] _).al _).dr hbk; have HP1 := At.up (at_new1 _ _ [.bool false, .slice none 0 0] _).dr hbk; replace HB := ((HB.al _).al _).dr.up hbk; replace HA := ((HA.al _).al _).dr.up hbk)); have lz0 := HA.lt; (try have lz2 := HP0.lt); (try have lz3 := HP1.lt)) | (go_at_call 62; (with_reducible refine (CD.out _ _ _ HB z2).mono ?_); rintro e w3 ⟨Aq, cq, Ar, cr, rfl, zq, zr, hbk⟩; (with_reducible (replace HB := HB.up hbk; replace HA := HA.up hbk)); (try (with_reducible replace HP0 := HP0.up hbk)); (try (with_reducible replace HP1 := HP1.up hbk)); (try have hp0_0 := HP0.c0); (try have hp0_1 := HP0.c1); (try have fhp0_0 := HP0.f0); (try have fhp0_1 := HP0.f1); (try have lhp0 := HP0.lt); (try have hp1_0 := HP1.c0); (try have hp1_1 := HP1.c1); (try have fhp1_0 := HP1.f0); (try have fhp1_1 := HP1.f1); (try have lhp1 := HP1.lt); (try have hq0_0 := HQ0.c0); (try have hq0_1 := HQ0.c1); (try have fhq0_0 := HQ0.f0); (try have fhq0_1 := HQ0.f1); (try have lhq0 := HQ0.lt); (try have hq1_0 := HQ1.c0); (try have hq1_1 := HQ1.c1); (try have fhq1_0 := HQ1.f0); (try have fhq1_1 := HQ1.f1); (try have lhq1 := HQ1.lt); have lz1 := HA.lt) | (go_at_call 62; (with_reducible refine (CD.out _ _ _ (HB.al _) (z2.al _)).mono ?_); rintro e w3 ⟨Aq, cq, Ar, cr, rfl, zq, zr, hbk⟩; (with_reducible (have HQ0 := At.up (at_new0 _ [.bool false, .slice none 0 0] _) hbk; replace HB := (HB.al _).up hbk; replace HA := (HA.al _).up hbk)); (try (with_reducible replace HP0 := (HP0.al _).up hbk)); (try (with_reducible replace HP1 := (HP1.al _).up hbk)); (try have hp0_0 := HP0.c0); (try have hp0_1 := HP0.c1); (try have fhp0_0 := HP0.f0); (try have fhp0_1 := HP0.f1); (try have lhp0 := HP0.lt); (try have hp1_0 := HP1.c0); (try have hp1_1 := HP1.c1); (try have fhp1_0 := HP1.f0); (try have fhp1_1 := HP1.f1); (try have lhp1 := HP1.lt); (try have hq0_0 := HQ0.c0); (try have hq0_1 := HQ0.c1); (try have fhq0_0 := HQ0.f0); (try have fhq0_1 := HQ0.f1); (try have lhq0 := HQ0.lt); (try have hq1_0 := HQ1.c0); (try have hq1_1 := HQ1.c1); (try have fhq1_0 := HQ1.f0); (try have fhq1_1 := HQ1.f1); (try have lhq1 := HQ1.lt); have lz1 := HA.lt) | (go_at_call 62; (with_reducible refine (CD.out _ _ _ ((HB.al _).al _) ((z2.al _).al _)).mono ?_); rintro e w3 ⟨Aq, cq, Ar, cr, rfl, zq, zr, hbk⟩; (with_reducible (have HQ0 := At.up ((at_new0 _ [.bool false, .slice none 0 0] _).al _) hbk; have HQ1 := At.up (at_new1 _ _ [.bool false, .slice none 0 0] _) hbk; replace HB := ((HB.al _).al _).up hbk; replace HA := ((HA.al _).al _).up hbk)); (try (with_reducible replace HP0 := ((HP0.al _).al _).up hbk)); (try (with_reducible replace HP1 := ((HP1.al _).al _).up hbk)); (try have hp0_0 := HP0.c0); (try have hp0_1 := HP0.c1); (try have fhp0_0 := HP0.f0); (try have fhp0_1 := HP0.f1); (try have lhp0 := HP0.lt); (try have hp1_0 := HP1.c0); (try have hp1_1 := HP1.c1); (try have fhp1_0 := HP1.f0); (try have fhp1_1 := HP1.f1); (try have lhp1 := HP1.lt); (try have hq0_0 := HQ0.c0); (try have hq0_1 := HQ0.c1); (try have fhq0_0 := HQ0.f0); (try have fhq0_1 := HQ0.f1); (try have lhq0 := HQ0.lt); (try have hq1_0 := HQ1.c0); (try have hq1_1 := HQ1.c1); (try have fhq1_0 := HQ1.f0); (try have fhq1_1 := HQ1.f1); (try have lhq1 := HQ1.lt); have lz1 := HA.lt) | fail)
  all_goals
    go_wp2_with (first | (go_at_call 63; refine call_named ?_; intro W4 hW4; have zn := zr.1; have NF : Nm W4 Ar (dl v.natAbs) cr v.natAbs := (by rw [hW4]; (repeat (first | with_reducible exact HB | with_reducible exact HA | with_reducible exact HP0 | with_reducible exact HP1 | with_reducible exact HQ0 | with_reducible exact HQ1 | with_reducible exact zn | (with_reducible refine Bel.dr ?_) | (with_reducible refine Bel.al ?_ _) | (with_reducible refine Bel.put2 ?_ (by omega) _ _) | (with_reducible refine Nm.dr ?_) | (with_reducible refine Nm.al ?_ _) | (with_reducible refine Nm.putz ?_ ?_ _ _ _ _) | (with_reducible refine At.dr ?_) | (with_reducible refine At.al ?_ _) | (with_reducible refine At.far2 ?_ (by omega) _ _)  | (with_reducible refine At.put2 (v0 := .bool false) (v1 := .slice none 0 0) ?_ _ _)))); have BF : Bel W W4 := (by rw [hW4]; (repeat (first | with_reducible exact HB | with_reducible exact HA | with_reducible exact HP0 | with_reducible exact HP1 | with_reducible exact HQ0 | with_reducible exact HQ1 | with_reducible exact zn | (with_reducible refine Bel.dr ?_) | (with_reducible refine Bel.al ?_ _) | (with_reducible refine Bel.put2 ?_ (by omega) _ _) | (with_reducible refine Nm.dr ?_) | (with_reducible refine Nm.al ?_ _) | (with_reducible refine Nm.putz ?_ ?_ _ _ _ _) | (with_reducible refine At.dr ?_) | (with_reducible refine At.al ?_ _) | (with_reducible refine At.far2 ?_ (by omega) _ _)  | (with_reducible refine At.put2 (v0 := .bool false) (v1 := .slice none 0 0) ?_ _ _)))); clear hW4; (with_reducible refine (CS.out _ _ _ (zr.mv NF)).mono ?_); rintro e w5 ⟨rfl, hbk⟩; replace BF := BF.up hbk) | fail)
    go_ret
    exact ⟨bool_ret (by first | exact HU.out | (have := HU.out; simpa using this)), BF⟩
set_option maxHeartbeats 8000000 in
theorem leans_h {m : Int} (h : ZA W b A n c z) (hd : dl z.natAbs ≤ 99999) (hm : 1 ≤ m ∧ m ≤ 7) : Calls Tryz.prog 97 #[.agg #[.bool b, .slice A n c], .int .i64 m] W (RetB W (lnUp m z)) := by
  obtain ⟨u, hu⟩ : ∃ u, z.sign = u := ⟨_, rfl⟩
  obtain ⟨x, hx⟩ : ∃ x, x = decide (z % 2 ≠ 0) := ⟨_, rfl⟩
  have HU : Hid (decide (u < 0) = decide (z < 0)) := by
    unfold Hid
    rw [← hu]
    rcases Int.lt_trichotomy z 0 with h0 | h0 | h0
    · rw [Int.sign_eq_neg_one_of_neg h0, decide_eq_true h0]; rfl
    · rw [h0]; rfl
    · rw [Int.sign_eq_one_of_pos h0, decide_eq_false (show ¬ z < 0 by omega)]; rfl
  have CS : Hid (∀ W', Bel W W' → Calls Tryz.prog 63 #[.agg #[.bool b, .slice A n c]] W' (IntPost W' u)) := fun W' hb => sign_h (h.up hb) hu
  have CO : Hid (∀ W', Bel W W' → Calls Tryz.prog 112 #[.agg #[.bool b, .slice A n c]] W' (RetB W' x)) := fun W' hb => by rw [hx]; exact odd_h (h.up hb) hd
  obtain ⟨s, hs⟩ : ∃ s, s = decide (z < 0) := ⟨_, rfl⟩
  rw [← hs] at HU
  have HM : ∀ y : Bool, lnUp m z = y ↔ (if m = 1 ∨ m = 5 then s else if m = 2 ∨ m = 6 then !s else if m = 7 then x else decide (m = 4)) = y := fun y => by unfold lnUp; rw [hs, hx]
  obtain ⟨y, hy⟩ : ∃ y, lnUp m z = y := ⟨_, rfl⟩
  have HY := hide ((HM y).1 hy)
  rw [hy]
  clear hu hx hs HM hy h hd
  have HB := Bel.refl W
  have hmm : m = 1 ∨ m = 2 ∨ m = 3 ∨ m = 4 ∨ m = 5 ∨ m = 6 ∨ m = 7 := by omega
  clear hm
  rcases hmm with rfl | rfl | rfl | rfl | rfl | rfl | rfl
  all_goals
    have HY2 := HY.out
    simp only [Int.reduceEq, or_true, true_or, or_self, or_false, false_or, if_true, if_false, ↓reduceIte, decide_true, decide_false, Bool.false_eq_true] at HY2
    replace HY2 := hide HY2
    clear HY
    go_enter Tryz.func97, Tryz.ntmps97
    go_wp2_with (first | (go_at_call 63; (with_reducible refine (CS.out _ (HB.al _)).mono ?_); rintro e w1 ⟨rfl, hbk⟩; have HA := At.up (at_new0 _ _ _) hbk; replace HB := (HB.al _).up hbk; have ha_0 := HA.c0; have ha_1 := HA.c1; have ha_l := HA.lt) | (go_at_call 112; (with_reducible refine (CO.out _ HB).mono ?_); rintro e w2 ⟨rfl, hbk⟩; replace hbk := Bel.hid hbk; replace HB := HB.up hbk) | fail)
    go_ret
    exact ⟨bool_ret (by first | exact HY2.out | (rw [← HY2.out]; exact HU.out) | (rw [← HY2.out, ← HU.out]) | (rw [← HY2.out]; rfl) | (rw [← HY2.out, ← HU.out]; rfl)), HB⟩
set_option maxHeartbeats 8000000 in
theorem rises_dir {m : Int} (h : ZA W b A n c f) (hr : Nm W A' n' c' r) {A2 : Option Addr} {n2 c2 : Nat} (hq : Nm W A2 n2 c2 q) (hd : dl f.natAbs ≤ 99999) (hm : 1 ≤ m ∧ m ≤ 7) (h4 : m ≤ 4) : Calls Tryz.prog 64 #[.agg #[.bool b, .slice A n c], .agg #[.slice A' n' c'], .agg #[.slice A2 n2 c2], .int .i64 m] W (RetB W (lnUp m f)) := by
  obtain ⟨x, hx⟩ : ∃ x, x = lnUp m f := ⟨_, rfl⟩
  have CL : Hid (∀ W', Bel W W' → Calls Tryz.prog 97 #[.agg #[.bool b, .slice A n c], .int .i64 m] W' (RetB W' x)) := fun W' hb => by rw [hx]; exact leans_h (h.up hb) hd hm
  have HX := hide hx
  (try rw [← hx])
  have hmm : m = 1 ∨ m = 2 ∨ m = 3 ∨ m = 4 := by omega
  clear h hr hq hd hm h4 hx HX
  have HB := Bel.refl W
  rcases hmm with rfl | rfl | rfl | rfl
  all_goals
    go_enter Tryz.func64, Tryz.ntmps64
    go_wp2_with (first | (go_at_call 97; (with_reducible refine (CL.out _ (((HB.al _).al _).al _)).mono ?_); rintro e w1 ⟨rfl, hbk⟩; replace hbk := Bel.hid hbk; replace HB := (((HB.al _).al _).al _).up hbk) | fail)
    go_ret
    exact ⟨rfl, HB⟩
set_option maxHeartbeats 8000000 in
theorem rises_lo {m : Int} (h : ZA W b A n c f) (hr : Nm W A' n' c' r) {A2 : Option Addr} {n2 c2 : Nat} (hq : Nm W A2 n2 c2 q) (hd : dl f.natAbs ≤ 99999) (hm : 1 ≤ m ∧ m ≤ 7) (h4 : 4 < m) (hc : r + r < q) (hdq : dl (r + r) ≤ 100000) : Calls Tryz.prog 64 #[.agg #[.bool b, .slice A n c], .agg #[.slice A' n' c'], .agg #[.slice A2 n2 c2], .int .i64 m] W (RetB W false) := by
  obtain ⟨x, hx⟩ : ∃ x, x = lnUp m f := ⟨_, rfl⟩
  have CL : Hid (∀ W', Bel W W' → Calls Tryz.prog 97 #[.agg #[.bool b, .slice A n c], .int .i64 m] W' (RetB W' x)) := fun W' hb => by rw [hx]; exact leans_h (h.up hb) hd hm
  have HX := hide hx
  (try rw [← hx])
  obtain ⟨y, hy⟩ : ∃ y, r + r = y := ⟨_, rfl⟩
  rw [hy] at hc hdq
  have CA : Hid (∀ W', Bel W W' → Calls Tryz.prog 94 #[.agg #[.slice A' n' c'], .agg #[.slice A' n' c']] W' (NumR W' y)) := fun W' hb => add_h (hr.up hb) (hr.up hb) hy hdq
  have CC : Hid (∀ W' B e, Bel W W' → Nm W' B (dl y) e y → Calls Tryz.prog 31 #[.agg #[.slice B (dl y) e], .agg #[.slice A2 n2 c2]] W' (IntPost W' (-1))) := fun W' B e hb h1 => cmp_h h1 (hq.up hb) (cmpI_lt hc)
  have m1 : (m == 1) = false := by simp; omega
  have m2 : (m == 2) = false := by simp; omega
  have m3 : (m == 3) = false := by simp; omega
  have m4 : (m == 4) = false := by simp; omega
  clear h hr hq hd hm h4 hc hdq hx hy
  have HB := Bel.refl W
  have H0 := at_new0 W [.bool b, .slice A n c] 26
  have H1 := at_new1 W (.cells #[.bool b, .slice A n c] 26) [.slice A' n' c'] 24
  have H2 := at_new2 W (.cells #[.bool b, .slice A n c] 26) (.cells #[.slice A' n' c'] 24) [.slice A2 n2 c2] 24
  replace H1 := H1.al (.cells #[.slice A2 n2 c2] 24)
  replace H0 := (H0.al (.cells #[.slice A' n' c'] 24)).al (.cells #[.slice A2 n2 c2] 24)
  replace HB := ((HB.al (.cells #[.bool b, .slice A n c] 26)).al (.cells #[.slice A' n' c'] 24)).al (.cells #[.slice A2 n2 c2] 24)
  go_enter Tryz.func64, Tryz.ntmps64
  go_wp2_with fail
  go_region_held3 (fun w' => w'.cell? ⟨W.heap.size + 1, 0, none⟩ = some (.slice A' n' c') ∧ w'.cell? ⟨W.heap.size + 1 + 1, 0, none⟩ = some (.slice A2 n2 c2))
    (refine ⟨(?_ : At _ (W.heap.size + 1) [.slice A' n' c']).c0, (?_ : At _ (W.heap.size + 1 + 1) [.slice A2 n2 c2]).c0⟩ <;> (repeat (first | with_reducible exact H1 | with_reducible exact H2 | (with_reducible refine At.dr ?_) | (with_reducible refine At.al ?_ _) | (with_reducible refine At.far ?_ (by omega) _))))
    (first | (go_at_call 94; (with_reducible refine (CA.out _ HB.dr).mono ?_); rintro e w1 ⟨B1, e1, rfl, n1, hbk⟩; (with_reducible (replace HB := HB.dr.up hbk; replace H0 := H0.dr.up hbk; replace H1 := H1.dr.up hbk; replace H2 := H2.dr.up hbk))) | (go_at_call 31; (with_reducible refine (CC.out _ _ _ HB n1).mono ?_); rintro e w2 ⟨rfl, hbk⟩; (with_reducible (replace HB := HB.up hbk; replace H0 := H0.up hbk; replace H1 := H1.up hbk; replace H2 := H2.up hbk)); have h0_0 := H0.c0; have h0_1 := H0.c1; have h0_l := H0.lt) | fail)
  go_wp2_with (first | (go_at_call 97; (with_reducible refine (CL.out _ HB).mono ?_); rintro e w3 ⟨rfl, hbk⟩; replace hbk := Bel.hid hbk; replace HB := HB.up hbk) | fail)
  go_ret
  exact ⟨rfl, HB⟩
set_option maxHeartbeats 8000000 in
theorem rises_hi {m : Int} (h : ZA W b A n c f) (hr : Nm W A' n' c' r) {A2 : Option Addr} {n2 c2 : Nat} (hq : Nm W A2 n2 c2 q) (hd : dl f.natAbs ≤ 99999) (hm : 1 ≤ m ∧ m ≤ 7) (h4 : 4 < m) (hc : q < r + r) (hdq : dl (r + r) ≤ 100000) : Calls Tryz.prog 64 #[.agg #[.bool b, .slice A n c], .agg #[.slice A' n' c'], .agg #[.slice A2 n2 c2], .int .i64 m] W (RetB W true) := by
  obtain ⟨x, hx⟩ : ∃ x, x = lnUp m f := ⟨_, rfl⟩
  have CL : Hid (∀ W', Bel W W' → Calls Tryz.prog 97 #[.agg #[.bool b, .slice A n c], .int .i64 m] W' (RetB W' x)) := fun W' hb => by rw [hx]; exact leans_h (h.up hb) hd hm
  have HX := hide hx
  (try rw [← hx])
  obtain ⟨y, hy⟩ : ∃ y, r + r = y := ⟨_, rfl⟩
  rw [hy] at hc hdq
  have CA : Hid (∀ W', Bel W W' → Calls Tryz.prog 94 #[.agg #[.slice A' n' c'], .agg #[.slice A' n' c']] W' (NumR W' y)) := fun W' hb => add_h (hr.up hb) (hr.up hb) hy hdq
  have CC : Hid (∀ W' B e, Bel W W' → Nm W' B (dl y) e y → Calls Tryz.prog 31 #[.agg #[.slice B (dl y) e], .agg #[.slice A2 n2 c2]] W' (IntPost W' (1))) := fun W' B e hb h1 => cmp_h h1 (hq.up hb) (cmpI_gt hc)
  have m1 : (m == 1) = false := by simp; omega
  have m2 : (m == 2) = false := by simp; omega
  have m3 : (m == 3) = false := by simp; omega
  have m4 : (m == 4) = false := by simp; omega
  clear h hr hq hd hm h4 hc hdq hx hy
  have HB := Bel.refl W
  have H0 := at_new0 W [.bool b, .slice A n c] 26
  have H1 := at_new1 W (.cells #[.bool b, .slice A n c] 26) [.slice A' n' c'] 24
  have H2 := at_new2 W (.cells #[.bool b, .slice A n c] 26) (.cells #[.slice A' n' c'] 24) [.slice A2 n2 c2] 24
  replace H1 := H1.al (.cells #[.slice A2 n2 c2] 24)
  replace H0 := (H0.al (.cells #[.slice A' n' c'] 24)).al (.cells #[.slice A2 n2 c2] 24)
  replace HB := ((HB.al (.cells #[.bool b, .slice A n c] 26)).al (.cells #[.slice A' n' c'] 24)).al (.cells #[.slice A2 n2 c2] 24)
  go_enter Tryz.func64, Tryz.ntmps64
  go_wp2_with fail
  go_region_held3 (fun w' => w'.cell? ⟨W.heap.size + 1, 0, none⟩ = some (.slice A' n' c') ∧ w'.cell? ⟨W.heap.size + 1 + 1, 0, none⟩ = some (.slice A2 n2 c2))
    (refine ⟨(?_ : At _ (W.heap.size + 1) [.slice A' n' c']).c0, (?_ : At _ (W.heap.size + 1 + 1) [.slice A2 n2 c2]).c0⟩ <;> (repeat (first | with_reducible exact H1 | with_reducible exact H2 | (with_reducible refine At.dr ?_) | (with_reducible refine At.al ?_ _) | (with_reducible refine At.far ?_ (by omega) _))))
    (first | (go_at_call 94; (with_reducible refine (CA.out _ HB.dr).mono ?_); rintro e w1 ⟨B1, e1, rfl, n1, hbk⟩; (with_reducible (replace HB := HB.dr.up hbk; replace H0 := H0.dr.up hbk; replace H1 := H1.dr.up hbk; replace H2 := H2.dr.up hbk))) | (go_at_call 31; (with_reducible refine (CC.out _ _ _ HB n1).mono ?_); rintro e w2 ⟨rfl, hbk⟩; (with_reducible (replace HB := HB.up hbk; replace H0 := H0.up hbk; replace H1 := H1.up hbk; replace H2 := H2.up hbk)); have h0_0 := H0.c0; have h0_1 := H0.c1; have h0_l := H0.lt) | fail)
  go_wp2_with (first | (go_at_call 97; (with_reducible refine (CL.out _ HB).mono ?_); rintro e w3 ⟨rfl, hbk⟩; replace hbk := Bel.hid hbk; replace HB := HB.up hbk) | fail)
  go_ret
  exact ⟨rfl, HB⟩
set_option maxHeartbeats 8000000 in
theorem rises_eq {m : Int} (h : ZA W b A n c f) (hr : Nm W A' n' c' r) {A2 : Option Addr} {n2 c2 : Nat} (hq : Nm W A2 n2 c2 q) (hd : dl f.natAbs ≤ 99999) (hm : 1 ≤ m ∧ m ≤ 7) (h4 : 4 < m) (hc : r + r = q) (hdq : dl (r + r) ≤ 100000) : Calls Tryz.prog 64 #[.agg #[.bool b, .slice A n c], .agg #[.slice A' n' c'], .agg #[.slice A2 n2 c2], .int .i64 m] W (RetB W (lnUp m f)) := by
  obtain ⟨x, hx⟩ : ∃ x, x = lnUp m f := ⟨_, rfl⟩
  have CL : Hid (∀ W', Bel W W' → Calls Tryz.prog 97 #[.agg #[.bool b, .slice A n c], .int .i64 m] W' (RetB W' x)) := fun W' hb => by rw [hx]; exact leans_h (h.up hb) hd hm
  have HX := hide hx
  (try rw [← hx])
  obtain ⟨y, hy⟩ : ∃ y, r + r = y := ⟨_, rfl⟩
  rw [hy] at hc hdq
  have CA : Hid (∀ W', Bel W W' → Calls Tryz.prog 94 #[.agg #[.slice A' n' c'], .agg #[.slice A' n' c']] W' (NumR W' y)) := fun W' hb => add_h (hr.up hb) (hr.up hb) hy hdq
  have CC : Hid (∀ W' B e, Bel W W' → Nm W' B (dl y) e y → Calls Tryz.prog 31 #[.agg #[.slice B (dl y) e], .agg #[.slice A2 n2 c2]] W' (IntPost W' (0))) := fun W' B e hb h1 => cmp_h h1 (hq.up hb) (cmpI_eq hc)
  have m1 : (m == 1) = false := by simp; omega
  have m2 : (m == 2) = false := by simp; omega
  have m3 : (m == 3) = false := by simp; omega
  have m4 : (m == 4) = false := by simp; omega
  clear h hr hq hd hm h4 hc hdq hx hy
  have HB := Bel.refl W
  have H0 := at_new0 W [.bool b, .slice A n c] 26
  have H1 := at_new1 W (.cells #[.bool b, .slice A n c] 26) [.slice A' n' c'] 24
  have H2 := at_new2 W (.cells #[.bool b, .slice A n c] 26) (.cells #[.slice A' n' c'] 24) [.slice A2 n2 c2] 24
  replace H1 := H1.al (.cells #[.slice A2 n2 c2] 24)
  replace H0 := (H0.al (.cells #[.slice A' n' c'] 24)).al (.cells #[.slice A2 n2 c2] 24)
  replace HB := ((HB.al (.cells #[.bool b, .slice A n c] 26)).al (.cells #[.slice A' n' c'] 24)).al (.cells #[.slice A2 n2 c2] 24)
  go_enter Tryz.func64, Tryz.ntmps64
  go_wp2_with fail
  go_region_held3 (fun w' => w'.cell? ⟨W.heap.size + 1, 0, none⟩ = some (.slice A' n' c') ∧ w'.cell? ⟨W.heap.size + 1 + 1, 0, none⟩ = some (.slice A2 n2 c2))
    (refine ⟨(?_ : At _ (W.heap.size + 1) [.slice A' n' c']).c0, (?_ : At _ (W.heap.size + 1 + 1) [.slice A2 n2 c2]).c0⟩ <;> (repeat (first | with_reducible exact H1 | with_reducible exact H2 | (with_reducible refine At.dr ?_) | (with_reducible refine At.al ?_ _) | (with_reducible refine At.far ?_ (by omega) _))))
    (first | (go_at_call 94; (with_reducible refine (CA.out _ HB.dr).mono ?_); rintro e w1 ⟨B1, e1, rfl, n1, hbk⟩; (with_reducible (replace HB := HB.dr.up hbk; replace H0 := H0.dr.up hbk; replace H1 := H1.dr.up hbk; replace H2 := H2.dr.up hbk))) | (go_at_call 31; (with_reducible refine (CC.out _ _ _ HB n1).mono ?_); rintro e w2 ⟨rfl, hbk⟩; (with_reducible (replace HB := HB.up hbk; replace H0 := H0.up hbk; replace H1 := H1.up hbk; replace H2 := H2.up hbk)); have h0_0 := H0.c0; have h0_1 := H0.c1; have h0_l := H0.lt) | fail)
  go_wp2_with (first | (go_at_call 97; (with_reducible refine (CL.out _ HB).mono ?_); rintro e w3 ⟨rfl, hbk⟩; replace hbk := Bel.hid hbk; replace HB := HB.up hbk) | fail)
  go_ret
  exact ⟨rfl, HB⟩
theorem rises_h {m : Int} (h : ZA W b A n c f) (hr : Nm W A' n' c' r) {A2 : Option Addr} {n2 c2 : Nat} (hq : Nm W A2 n2 c2 q) (hd : dl f.natAbs ≤ 99999) (hm : 1 ≤ m ∧ m ≤ 7) (hdq : dl (r + r) ≤ 100000) : Calls Tryz.prog 64 #[.agg #[.bool b, .slice A n c], .agg #[.slice A' n' c'], .agg #[.slice A2 n2 c2], .int .i64 m] W (RetB W (rdUp m f r q)) := by
  unfold rdUp
  by_cases h4 : m ≤ 4
  · rw [if_pos h4]; exact rises_dir h hr hq hd hm h4
  · rw [if_neg h4]
    by_cases h1 : r + r < q
    · rw [if_pos h1]; exact rises_lo h hr hq hd hm (by omega) h1 hdq
    · rw [if_neg h1]
      by_cases h2 : q < r + r
      · rw [if_pos h2]; exact rises_hi h hr hq hd hm (by omega) h2 hdq
      · rw [if_neg h2]; exact rises_eq h hr hq hd hm (by omega) (by omega) hdq
end
end Go.Proofs.YtmiklffjffdkgaaGreatDoor
end
