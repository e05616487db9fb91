/- Package rat: Text, Parse of what Text shows. Conditions: terms of at most 9000 words, a text of at most 99999 bytes. -/
import Derived.Test.YtmiklffjffdkgaaGreatDoorQe
import Derived.Test.YtmiklffjffdkgaaGreatDoorQs
import Derived.Test.YtmiklffjffdkgaaGreatDoorGRwbc13
open Go.RowKit
set_option maxRecDepth 100000
namespace Go.Proofs.YtmiklffjffdkgaaGreatDoor
/-- A fraction's text. -/
def decQ (r : Rat) : List UInt8 := if r.den = 1 then decZ r.num else decZ r.num ++ (47 :: decL r.den)
def NPR (W : World) (v : Nat) (e : Ending) (w' : World) : Prop := ∃ A c, e = .returned (.tuple #[.agg #[.slice A (dl v) c], .bool true]) ∧ Nm w' A (dl v) c v ∧ Hid (Below W.heap.size W w')
/-- What Cut answers, told from the string alone. -/
def CutQ (w : World) (t : ByteArray) (u : ByteArray) (b : Bool) (e : Ending) (w' : World) : Prop := e = .returned (.tuple #[.string t, .string u, .bool b]) ∧ Hid (Below w.heap.size w w')
theorem split_once {a a' b b' : List UInt8} (h : a ++ 47 :: b = a' ++ 47 :: b') (ha : ¬ (47 : UInt8) ∈ a) (ha' : ¬ (47 : UInt8) ∈ a') : a = a' ∧ b = b' := by
  induction a generalizing a' with
  | nil =>
    cases a' with
    | nil => simp at h; exact ⟨rfl, h⟩
    | cons x xs => simp at h; exact absurd (by rw [← h.1]; simp) ha'
  | cons y ys ih =>
    cases a' with
    | nil => simp at h; exact absurd (by rw [h.1]; simp) ha
    | cons x xs =>
      simp at h
      obtain ⟨h1, h2⟩ := ih h.2 (fun h => ha (List.mem_cons_of_mem _ h)) (fun h => ha' (List.mem_cons_of_mem _ h))
      exact ⟨by rw [h.1, h1], h2⟩
def CutM (w : World) (s : ByteArray) (e : Ending) (w' : World) : Prop := ∃ u, e = .returned (.tuple #[.string s, .string u, .bool false]) ∧ Hid (Below w.heap.size w w')
/-- As QR, the sign by a name of its own. -/
def QRs (W : World) (sg : Bool) (r : Rat) (e : Ending) (w' : World) : Prop :=
  ∃ A c A' c', e = .returned (.agg #[.bool sg, .slice A (dl r.num.natAbs) c, .slice A' (dl r.den) c']) ∧ ZA w' sg A (dl r.num.natAbs) c r.num ∧ Nm w' A' (dl r.den) c' r.den ∧ Hid (Below W.heap.size W w')
def OfYs (W : World) (sg : Bool) (r : Rat) (e : Ending) (w' : World) : Prop := ∃ A c A' c', e = .returned (.tuple #[.agg #[.bool sg, .slice A (dl r.num.natAbs) c, .slice A' (dl r.den) c'], .bool true]) ∧ ZA w' sg A (dl r.num.natAbs) c r.num ∧ Nm w' A' (dl r.den) c' r.den ∧ Hid (Below W.heap.size W w')
def ZPRs (W : World) (sg : Bool) (z : Int) (e : Ending) (w' : World) : Prop := ∃ A c, e = .returned (.tuple #[.agg #[.bool sg, .slice A (dl z.natAbs) c], .bool true]) ∧ ZA w' sg A (dl z.natAbs) c z ∧ Hid (Below W.heap.size W w')
section
variable {W : World} {b b' : Bool} {A A' : Option Addr} {n n' c c' m m' : Nat} {z z' : Int} {r : Rat} {K : Nat}
theorem dec_bd {m K : Nat} (h : m < W32 ^ K) : (decL m).length ≤ 10 * K + 1 := by
  have h3 : W32 ^ K ≤ (10 ^ 10) ^ K := Nat.pow_le_pow_left (by decide) _
  rw [← Nat.pow_mul] at h3
  refine dt_le (Nat.lt_of_lt_of_le (Nat.lt_of_lt_of_le h h3) (Nat.pow_le_pow_right (by decide) (by omega))) (by omega)
theorem decZ_bd {z : Int} {K : Nat} (h : z.natAbs < W32 ^ K) : (decZ z).length ≤ 10 * K + 2 := by
  have := dec_bd h
  unfold decZ
  by_cases hn : z < 0
  · rw [if_pos hn, List.length_cons]; omega
  · rw [if_neg hn]; omega
theorem tt_bd {z : Int} {d : Nat} {r : Rat} {K : Nat} (h : TT z d r K) : r.num.natAbs < W32 ^ K ∧ r.den < W32 ^ K := by
  obtain ⟨h0, h1, h2, h3⟩ := h
  obtain ⟨g0, e1, e2, _⟩ := low_terms (z := z) h0 (rfl : Nat.gcd z.natAbs d = Nat.gcd z.natAbs d)
  rw [h1] at e1 e2
  exact ⟨by rw [e1]; exact Nat.lt_of_le_of_lt (Nat.div_le_self _ _) h2, by rw [e2]; exact Nat.lt_of_le_of_lt (Nat.div_le_self _ _) h3⟩
theorem qa_bd (h : QA W b A n c A' n' c' r K) (hK : 0 < K) : r.num.natAbs < W32 ^ K ∧ r.den < W32 ^ K := by
  obtain ⟨z, d, _, _, h1, h2, h3⟩ := h
  rcases Nat.eq_zero_or_pos d with h0 | h0
  · subst h0
    rw [Rat.mkRat_zero] at h1
    subst h1
    exact ⟨Nat.pow_pos (by decide), Nat.one_lt_pow (by omega) (by decide)⟩
  · exact tt_bd ⟨h0, h1, h2, h3⟩
end
end Go.Proofs.YtmiklffjffdkgaaGreatDoor
