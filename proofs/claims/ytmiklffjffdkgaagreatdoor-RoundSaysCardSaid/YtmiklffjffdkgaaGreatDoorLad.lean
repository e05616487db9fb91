/- The opening of a numeral that came in: a sign, words, a scale. No conditions. -/
import Derived.Test.YtmiklffjffdkgaaGreatDoorLaz
import Derived.Deep.Strs
open Go.ChangeShapes Go.WideShapes Go.ChangeAt Go.RowKit
set_option maxRecDepth 100000
namespace Go.Proofs.YtmiklffjffdkgaaGreatDoor
theorem Tryz.cellsDec : Tryz.prog.cellsOf 30 = 3 := by kernel_rfl
theorem Tryz.cellsInt : Tryz.prog.cellsOf 3 = 1 := by kernel_rfl
theorem open_nat1 {H : Type} {enc : TypeId × Value → H} {W : World} {n : Nat} {v1 : Value} {y1 : DataW H × List MemPlace} (h1 : DataW.trod enc Tryz.prog W 0 (fun _ => true) true n 24 [v1] = some y1) :
    ∃ a len cap z, v1 = .slice a len cap ∧ InWords W a len cap z := by
  obtain ⟨y2, n2, _, _, h2⟩ := trod_struct1 Tryz.underlying24 h1
  have h2' : DataW.trod enc Tryz.prog W 0 (fun _ => true) true n2 22 [v1] = some y2 := by
    have e := h2
    simp only [Tryz.cellsL] at e
    simpa using e
  have hsl : ∃ a len cap, v1 = .slice a len cap := by
    rcases open_ints Tryz.underlying22 Tryz.underlying92 (by kernel_rfl) h2' with ⟨hcs, _⟩ | ⟨x, l, c, zs, hcs, _⟩
    · injection hcs with hcs; exact ⟨_, _, _, hcs⟩
    · injection hcs with hcs; exact ⟨_, _, _, hcs⟩
  obtain ⟨a, len, cap, rfl⟩ := hsl
  obtain ⟨z, hz⟩ := open_words (enc := enc) (W := W) (a := a) (len := len) (cap := cap) (d := y2.1) (p := y2.2) ⟨n2, h2'⟩
  exact ⟨a, len, cap, z, rfl, hz⟩
theorem open_d {H : Type} {enc : TypeId × Value → H} {W : World} {r : Reach} {b0 : Nat} {v : Value} {d : DataW H} {p : List MemPlace}
    (hv : Value.okWide Tryz.prog W r b0 30 v) (h : DataW.Trod enc Tryz.prog W 0 (fun _ => true) true 30 v d p) :
    ∃ b a len cap z s, v = .agg #[.bool b, .slice a len cap, .int .i64 s] ∧ InWords W a len cap z ∧ -9223372036854775808 ≤ s ∧ s ≤ 9223372036854775807 := by
  obtain ⟨cs, rfl, hs⟩ := okWide_struct Tryz.underlying30 hv
  obtain ⟨fuel, hf⟩ := h
  obtain ⟨y0, y1, y2, n, hx, hl, h0, h1, h2⟩ := Go.Deep.trod_struct3 Tryz.underlying30 hf
  rw [Tryz.cellsDec] at hs
  obtain ⟨l⟩ := cs
  match l, hs with
  | [v0, v1, v2], _ =>
    have h0' : DataW.trod enc Tryz.prog W 0 (fun _ => true) true n 4 [v0] = some y0 := by
      have e := h0
      simp only [Tryz.cellsB] at e
      simpa [Value.cells] using e
    have h1' : DataW.trod enc Tryz.prog W 0 (fun _ => true) true n 24 [v1] = some y1 := by
      have e := h1
      simp only [Tryz.cellsN] at e
      simpa [Value.cells] using e
    have h2' : DataW.trod enc Tryz.prog W 0 (fun _ => true) true n 3 [v2] = some y2 := by
      have e := h2
      simp only [Tryz.cellsInt] at e
      simpa [Value.cells] using e
    obtain ⟨b, e0, _⟩ := DataW.trod_bool Tryz.underlying4 h0'
    injection e0 with e0
    subst e0
    obtain ⟨s, e2, _, hw⟩ := DataW.trod_int Tryz.underlying3 h2'
    injection e2 with e2
    subst e2
    obtain ⟨a, len, cap, z, rfl, hz⟩ := open_nat1 h1'
    have hb := bounds_i64 hw
    exact ⟨b, a, len, cap, z, s, rfl, hz, hb.1, hb.2⟩
end Go.Proofs.YtmiklffjffdkgaaGreatDoor
