/- Several texts in one, each with its own sentence and conditions. -/
import Derived.Test.YtmiklffjffdkgaaGreatDoorGRwbc16
import Derived.Test.YtmiklffjffdkgaaGreatDoorZgl
import Derived.Test.YtmiklffjffdkgaaGreatDoorQe
import Derived.Test.YtmiklffjffdkgaaGreatDoorQf
import Derived.Test.YtmiklffjffdkgaaGreatDoorGRwbc13
import Derived.Test.YtmiklffjffdkgaaGreatDoorGRwbc22
section
/- Package rat: Int, Floor. -/
open Go.RowKit
set_option maxRecDepth 100000
namespace Go.Proofs.YtmiklffjffdkgaaGreatDoor
section
variable {W : World} {b b' : Bool} {A A' : Option Addr} {n n' c c' m m' : Nat} {z z' : Int} {r : Rat} {K : Nat}
set_option maxHeartbeats 2000000 in
theorem int_h {k : Int} (h1 : -9223372036854775808 ≤ k) (h2 : k ≤ 9223372036854775807) : Calls Tryz.prog 71 #[.int .i64 k] W (QR W (k : Rat)) := by
  have CO : Hid (∀ W', Calls Tryz.prog 55 #[.int .i64 k] W' (ZR W' k)) := fun W' => zof_h h1 h2
  have C1 : Hid (∀ W', Calls Tryz.prog 56 #[.int .u64 1] W' (NumR W' 1)) := fun W' => of_h (v := 1) (by omega)
  have HB := Bel.refl W
  go_enter Tryz.func71, Tryz.ntmps71
  go_wp2_with (first | (go_at_call 55; (with_reducible refine (CO.out _).mono ?_); rintro e w1 ⟨B, e1, rfl, nz, hbk⟩; have HR := At.up (at_new0 _ _ _) hbk; replace HB := (HB.al _).up hbk) | (go_at_call 56; (with_reducible refine (C1.out _).mono ?_); rintro e w2 ⟨B', e2, rfl, nd, hbk⟩; replace HB := HB.up hbk; replace HR := HR.up hbk; replace nz := nz.up hbk; have hr_0 := HR.c0; have hr_1 := HR.c1; have hr_2 := HR.c2; have hr_l := HR.lt; have hr_f0 := HR.f0; have hr_f1 := HR.f1; have hr_f2 := HR.f2) | fail)
  refine bodyPost_ret (v := .agg #[.bool (decide (k < 0)), .slice B (dl k.natAbs) e1, .slice B' (dl 1) e2]) (by simp [results, Tryz.results71, go_sem, hr_0, hr_1, hr_2]) rfl ?_
  exact ⟨B, e1, B', e2, rfl, zr_of (nz.1.put3 HR now3), nd.put3 HR now3, below3 HB (Nat.le_refl _) _ _ _⟩
end
end Go.Proofs.YtmiklffjffdkgaaGreatDoor
end

section
/- Package rat: Neg, Add. -/
open Go.RowKit
set_option maxRecDepth 100000
namespace Go.Proofs.YtmiklffjffdkgaaGreatDoor
section
variable {W : World} {b b' s s' : Bool} {A A' B B' : Option Addr} {n n' c c' m m' k k' e e' : Nat} {z z' : Int} {r r' : Rat} {K L d d' : Nat}
end
end Go.Proofs.YtmiklffjffdkgaaGreatDoor
end

section
/- Package rat: Text, Parse of what Text shows. -/
open Go.RowKit
set_option maxRecDepth 100000
namespace Go.Proofs.YtmiklffjffdkgaaGreatDoor
section
variable {W : World} {b b' : Bool} {A A' : Option Addr} {n n' c c' m m' : Nat} {z z' : Int} {r : Rat} {K : Nat}
end
end Go.Proofs.YtmiklffjffdkgaaGreatDoor
end

section
/- Statements of rat: is, zis. Conditions: less than 4000 words. -/
open Go.RowKit
set_option maxRecDepth 100000
namespace Go.Proofs.YtmiklffjffdkgaaGreatDoor
section
variable {W : World} {z : Int}
end
end Go.Proofs.YtmiklffjffdkgaaGreatDoor
end

section
/- Statements of rat: qis, long, what the document tells of six over four. No conditions. -/
open Go.RowKit
set_option maxRecDepth 100000
namespace Go.Proofs.YtmiklffjffdkgaaGreatDoor
def RQs (W : World) (sg : Bool) (r : Rat) (e : Ending) (w' : World) : Prop := ∃ A c A' c', e = .returned (.agg #[.bool sg, .slice A (dq r.num.natAbs) c, .slice A' (dq r.den) c']) ∧ Rn w' A c r.num.natAbs ∧ Rn w' A' c' r.den ∧ Hid (Below W.heap.size W w')
def RZs (W : World) (sg : Bool) (z : Int) (e : Ending) (w' : World) : Prop := ∃ A c, e = .returned (.agg #[.bool sg, .slice A (dq z.natAbs) c]) ∧ Hid (RN w' w'.heap.size A c z.natAbs) ∧ Hid (Below W.heap.size W w')
def ZRs (W : World) (sg : Bool) (z : Int) (e : Ending) (w' : World) : Prop := ∃ A c, e = .returned (.agg #[.bool sg, .slice A (dl z.natAbs) c]) ∧ ZA w' sg A (dl z.natAbs) c z ∧ Hid (Below W.heap.size W w')
theorem qa_of {W : World} {sg : Bool} {A A' : Option Addr} {n c n' c' K : Nat} {r : Rat} (nz : ZA W sg A n c r.num) (nd : Nm W A' n' c' r.den) (hb : r.num.natAbs < W32 ^ K ∧ r.den < W32 ^ K) : QA W sg A n c A' n' c' r K := ⟨r.num, r.den, nz, nd, Rat.mkRat_self r, hb⟩
section
variable {W : World} {A A' B B' : Option Addr} {c c' n n' d d' : Nat} {r : Rat} {sg : Bool}
end
/-- Three over two; with its other sign; three; minus two. -/
def r32 : Rat := mkRat 3 2
def rm32 : Rat := -r32
def i3 : Int := 3
def im2 : Int := -2
theorem r32_num : r32.num = 3 := by decide +kernel
theorem r32_den : r32.den = 2 := by decide +kernel
theorem rm32_num : rm32.num = -3 := by decide +kernel
theorem rm32_den : rm32.den = 2 := by decide +kernel
theorem rm32_floor : rm32.floor = im2 := by decide +kernel
theorem dig1 {d : Nat} (h0 : 0 < d) (h : d < 10) : decL d = [letter d] := by
  unfold decL
  rw [if_neg (by omega), digs_pos (by decide) h0, Nat.mod_eq_of_lt h, Nat.div_eq_of_lt h, digs_zero]
  rfl
theorem decQ_r32 : decQ r32 = [51, 47, 50] := by
  unfold decQ
  rw [r32_den, r32_num, if_neg (by decide)]
  unfold decZ
  rw [if_neg (by decide), show (3 : Int).natAbs = 3 from rfl, dig1 (by decide) (by decide), dig1 (by decide) (by decide)]
  rfl
def StrR (W : World) (s : ByteArray) (e : Ending) (w' : World) : Prop := e = .returned (.string s) ∧ Hid (Below W.heap.size W w')
theorem str_of {W : World} {l : List UInt8} {s : ByteArray} {e : Ending} {w' : World} (h : TxR W l e w') (hs : s.data.toList = l) : StrR W s e w' := by
  obtain ⟨t, rfl, ht, hb⟩ := h
  exact ⟨by rw [show t = s from ByteArray.ext (Array.ext' (ht.out.trans hs.symm))], hb⟩
theorem w32_two {x K : Nat} (hx : x < 4294967296) (hK : 0 < K) : x < W32 ^ K := Nat.lt_of_lt_of_le hx (by
  have h := Nat.pow_le_pow_right (n := W32) (by decide) hK
  rw [Nat.pow_succ, Nat.pow_zero, Nat.one_mul] at h
  exact h)
theorem r32_bd : r32.num.natAbs < W32 ^ 1 ∧ r32.den < W32 ^ 1 := by rw [r32_num, r32_den]; exact ⟨w32_two (by decide) (by decide), w32_two (by decide) (by decide)⟩
theorem rm32_bd : rm32.num.natAbs < W32 ^ 1 ∧ rm32.den < W32 ^ 1 := by rw [rm32_num, rm32_den]; exact ⟨w32_two (by decide) (by decide), w32_two (by decide) (by decide)⟩

end Go.Proofs.YtmiklffjffdkgaaGreatDoor
end

section
/- The document's own fractions: QText, QCmp. Conditions: terms of at most 1000 words. -/
open Go.RowKit
set_option maxRecDepth 100000
namespace Go.Proofs.YtmiklffjffdkgaaGreatDoor
theorem decL_one : decL 1 = [49] := by rw [dig1 (by decide) (by decide)]; rfl
theorem decL_no1 {d : Nat} {t : ByteArray} (hd : d ≠ 1) (h : t.data.toList = decL d) : (t.toList == [49]) = false := by
  rw [toList_data, h]
  cases e : (decL d == [49]) with
  | false => rfl
  | true =>
    have h2 : decL d = [49] := by simpa using e
    have h3 := (numL_decL d).1
    rw [h2] at h3
    exact absurd h3.symm hd
section
variable {W : World} {b b' s : Bool} {A A' B B' : Option Addr} {c c' e e' d K : Nat} {z v : Int} {r r' : Rat}
set_option maxHeartbeats 4000000 in
theorem rqcmp_c (hb : Bd r K) (hb' : Bd r' K) (hK : K ≤ 1000) (h : Rz W b A c r.num) (h' : Rn W A' c' r.den) (k : Rz W b' B e r'.num) (k' : Rn W B' e' r'.den) (hv : (r + -r').num.sign = v) :
    Calls Tryz.prog 38 #[.agg #[.bool b, .slice A (dq r.num.natAbs) c, .slice A' (dq r.den) c'], .agg #[.bool b', .slice B (dq r'.num.natAbs) e, .slice B' (dq r'.den) e']] W (IntPost W v) := by
  obtain ⟨x, hx⟩ : ∃ x, x = -r' := ⟨_, rfl⟩
  obtain ⟨y, hy⟩ : ∃ y, y = r + x := ⟨_, rfl⟩
  obtain ⟨sx, hsx⟩ : ∃ s, s = decide (x.num < 0) := ⟨_, rfl⟩
  obtain ⟨sy, hsy⟩ : ∃ s, s = decide (y.num < 0) := ⟨_, rfl⟩
  have bx : Bd x K := by rw [hx]; exact hb'.neg
  rw [← hx, ← hy] at hv
  have CN : Hid (∀ W', Rz W' b' B e r'.num → Rn W' B' e' r'.den → Calls Tryz.prog 40 #[.agg #[.bool b', .slice B (dq r'.num.natAbs) e, .slice B' (dq r'.den) e']] W' (RQm W' sx x.num x.den)) := fun W' g g' => by rw [hsx, hx]; exact rqneg_c g g' rfl
  have CA : Hid (∀ W' F f G g, Rz W' b A c r.num → Rn W' A' c' r.den → Rz W' sx F f x.num → Rn W' G g x.den → Calls Tryz.prog 39 #[.agg #[.bool b, .slice A (dq r.num.natAbs) c, .slice A' (dq r.den) c'], .agg #[.bool sx, .slice F (dq x.num.natAbs) f, .slice G (dq x.den) g]] W' (RQm W' sy y.num y.den)) := fun W' F f G g g1 g2 g3 g4 => by rw [hsy, hy]; exact rqadd_c hb bx hK g1 g2 g3 g4
  have CS : Hid (∀ W' F f G g, Rz W' sy F f y.num → Calls Tryz.prog 44 #[.agg #[.bool sy, .slice F (dq y.num.natAbs) f, .slice G (dq y.den) g]] W' (IntPost W' v)) := fun W' F f G g g1 => rqsign_h g1 hv
  clear hb hb' hK hx hy hsx hsy bx hv
  have HB := Bel.refl W
  go_enter Tryz.func38, Tryz.ntmps38
  go_wp2_with fail
  obtain ⟨W1, hW1⟩ : ∃ X, X = (W.alloc (.cells #[.bool b, .slice A (dq r.num.natAbs) c, .slice A' (dq r.den) c'] 38)).alloc (.cells #[.bool b', .slice B (dq r'.num.natAbs) e, .slice B' (dq r'.den) e'] 38) := ⟨_, rfl⟩
  rw [← hW1]
  have HP : At W1 W.heap.size [.bool b, .slice A (dq r.num.natAbs) c, .slice A' (dq r.den) c'] := by rw [hW1]; exact (at_new0 _ _ _).al _
  have HQ : At W1 (W.heap.size + 1) [.bool b', .slice B (dq r'.num.natAbs) e, .slice B' (dq r'.den) e'] := by rw [hW1]; exact at_new1 _ _ _ _
  replace HB : Bel W W1 := by rw [hW1]; exact (HB.al _).al _
  replace h : Rz W1 b A c r.num := by rw [hW1]; exact (h.al _).al _
  replace h' : Rn W1 A' c' r.den := by rw [hW1]; exact (h'.al _).al _
  replace k : Rz W1 b' B e r'.num := by rw [hW1]; exact (k.al _).al _
  replace k' : Rn W1 B' e' r'.den := by rw [hW1]; exact (k'.al _).al _
  clear hW1
  go_region_held3 (fun w' => w'.cell? ⟨W.heap.size, 0, none⟩ = some (.bool b) ∧ w'.cell? ⟨W.heap.size, 1, none⟩ = some (.slice A (dq r.num.natAbs) c) ∧ w'.cell? ⟨W.heap.size, 2, none⟩ = some (.slice A' (dq r.den) c') ∧ w'.cell? ⟨W.heap.size + 1, 0, none⟩ = some (.bool b') ∧ w'.cell? ⟨W.heap.size + 1, 1, none⟩ = some (.slice B (dq r'.num.natAbs) e) ∧ w'.cell? ⟨W.heap.size + 1, 2, none⟩ = some (.slice B' (dq r'.den) e'))
    (first | exact ⟨HP.dr.c0, HP.dr.c1, HP.dr.c2, HQ.dr.c0, HQ.dr.c1, HQ.dr.c2⟩ | exact ⟨HP.c0, HP.c1, HP.c2, HQ.c0, HQ.c1, HQ.c2⟩)
    (first | (go_at_call 40; (with_reducible refine (CN.out _ k.dr k'.dr).mono ?_); rintro e w1 ⟨F, f, G, g, rfl, m1, m2, hbk⟩; (with_reducible (replace HB := HB.dr.up hbk; replace HP := HP.dr.up hbk; replace HQ := HQ.dr.up hbk; replace h := h.dr.up hbk; replace h' := h'.dr.up hbk))) | (go_at_call 39; (with_reducible refine (CA.out _ _ _ _ _ h h' m1 m2).mono ?_); rintro e w2 ⟨F2, f2, G2, g2, rfl, n1, n2, hbk⟩; (with_reducible (replace HB := HB.up hbk; replace HP := HP.up hbk; replace HQ := HQ.up hbk))) | (go_at_call 44; (with_reducible refine (CS.out _ _ _ _ _ n1).mono ?_); rintro e w3 ⟨rfl, hbk⟩; (with_reducible (replace HB := HB.up hbk; replace HP := HP.up hbk; replace HQ := HQ.up hbk))) | fail)
  go_wp2_with fail
  go_ret
  exact ⟨rfl, HB⟩
end
end Go.Proofs.YtmiklffjffdkgaaGreatDoor
end
