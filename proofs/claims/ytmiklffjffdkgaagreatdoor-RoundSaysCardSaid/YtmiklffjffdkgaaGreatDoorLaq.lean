/- The opening of a fraction that came in: a sign, words over and words under the line. No conditions. -/
import Derived.Test.YtmiklffjffdkgaaGreatDoorLaz
open Go.ChangeShapes Go.WideShapes Go.ChangeAt Go.RowKit
set_option maxRecDepth 100000
namespace Go.Proofs.YtmiklffjffdkgaaGreatDoor
theorem Tryz.cellsQ : Tryz.prog.cellsOf 28 = 3 := by kernel_rfl
theorem open_n1 {H : Type} {enc : TypeId × Value → H} {W : World} {n : Nat} {v1 : Value} {y1 : DataW H × List MemPlace} (h1 : DataW.trod enc Tryz.prog W 0 (fun _ => true) true n 24 [v1] = some y1) :
    ∃ a len cap z, v1 = .slice a len cap ∧ InWords W a len cap z := by
  obtain ⟨y2, n2, _, _, h2⟩ := trod_struct1 Tryz.underlying24 h1
  have h2' : DataW.trod enc Tryz.prog W 0 (fun _ => true) true n2 22 [v1] = some y2 := by
    have e := h2
    simp only [Tryz.cellsL] at e
    simpa using e
  have hsl : ∃ a len cap, v1 = .slice a len cap := by
    rcases open_ints Tryz.underlying22 Tryz.underlying92 (by kernel_rfl) h2' with ⟨hcs, _⟩ | ⟨x, l, c, zs, hcs, _⟩
    · injection hcs with hcs; exact ⟨_, _, _, hcs⟩
    · injection hcs with hcs; exact ⟨_, _, _, hcs⟩
  obtain ⟨a, len, cap, rfl⟩ := hsl
  obtain ⟨z, hz⟩ := open_words (enc := enc) (W := W) (a := a) (len := len) (cap := cap) (d := y2.1) (p := y2.2) ⟨n2, h2'⟩
  exact ⟨a, len, cap, z, rfl, hz⟩
theorem open_q {H : Type} {enc : TypeId × Value → H} {W : World} {r : Reach} {b0 : Nat} {v : Value} {d : DataW H} {p : List MemPlace}
    (hv : Value.okWide Tryz.prog W r b0 28 v) (h : DataW.Trod enc Tryz.prog W 0 (fun _ => true) true 28 v d p) :
    ∃ b a len cap z a' len' cap' z', v = .agg #[.bool b, .slice a len cap, .slice a' len' cap'] ∧ InWords W a len cap z ∧ InWords W a' len' cap' z' := by
  obtain ⟨cs, rfl, hs⟩ := okWide_struct Tryz.underlying28 hv
  obtain ⟨fuel, hf⟩ := h
  obtain ⟨y0, y1, n, hx, hl, h0, h1⟩ := trod_struct2 Tryz.underlying28 hf
  rw [Tryz.cellsQ] at hs
  obtain ⟨l⟩ := cs
  match l, hs with
  | [v0, v1, v2], _ =>
    have h0' : DataW.trod enc Tryz.prog W 0 (fun _ => true) true n 26 [v0, v1] = some y0 := by
      have e := h0
      simp only [Tryz.cellsZ] at e
      simpa [Value.cells] using e
    have h1' : DataW.trod enc Tryz.prog W 0 (fun _ => true) true n 24 [v2] = some y1 := by
      have e := h1
      simp only [Tryz.cellsN, Tryz.cellsZ] at e
      simpa [Value.cells] using e
    obtain ⟨y00, y01, n0, _, _, h00, h01⟩ := trod_struct2 Tryz.underlying26 h0'
    have h00' : DataW.trod enc Tryz.prog W 0 (fun _ => true) true n0 4 [v0] = some y00 := by
      have e := h00
      simp only [Tryz.cellsB] at e
      simpa [Value.cells] using e
    have h01' : DataW.trod enc Tryz.prog W 0 (fun _ => true) true n0 24 [v1] = some y01 := by
      have e := h01
      simp only [Tryz.cellsN, Tryz.cellsB] at e
      simpa [Value.cells] using e
    obtain ⟨b, e0, _⟩ := DataW.trod_bool Tryz.underlying4 h00'
    injection e0 with e0
    subst e0
    obtain ⟨a, len, cap, z, rfl, hz⟩ := open_n1 h01'
    obtain ⟨a', len', cap', z', rfl, hz'⟩ := open_n1 h1'
    exact ⟨b, a, len, cap, z, a', len', cap', z', rfl, hz, hz'⟩
end Go.Proofs.YtmiklffjffdkgaaGreatDoor
