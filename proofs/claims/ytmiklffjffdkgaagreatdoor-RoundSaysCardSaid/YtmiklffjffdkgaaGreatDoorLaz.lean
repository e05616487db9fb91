/- The opening of an integer that came in: a sign and words. No conditions. -/
import Derived.Test.YtmiklffjffdkgaaGreatDoorLaid
import Derived.ChangeArms
import Derived.ChangeSame
open Go.ChangeShapes Go.WideShapes Go.ChangeAt Go.RowKit
set_option maxRecDepth 100000
namespace Go.Proofs.YtmiklffjffdkgaaGreatDoor
theorem Tryz.cellsZ : Tryz.prog.cellsOf 26 = 2 := by kernel_rfl
theorem Tryz.cellsN : Tryz.prog.cellsOf 24 = 1 := by kernel_rfl
theorem Tryz.cellsL : Tryz.prog.cellsOf 22 = 1 := by kernel_rfl
theorem Tryz.cellsB : Tryz.prog.cellsOf 4 = 1 := by kernel_rfl
theorem open_z {H : Type} {enc : TypeId × Value → H} {W : World} {r : Reach} {b0 : Nat} {v : Value} {d : DataW H} {p : List MemPlace}
    (hv : Value.okWide Tryz.prog W r b0 26 v) (h : DataW.Trod enc Tryz.prog W 0 (fun _ => true) true 26 v d p) :
    ∃ b a len cap z, v = .agg #[.bool b, .slice a len cap] ∧ InWords W a len cap z := by
  obtain ⟨cs, rfl, hs⟩ := okWide_struct Tryz.underlying26 hv
  obtain ⟨fuel, hf⟩ := h
  obtain ⟨y0, y1, n, hx, hl, h0, h1⟩ := trod_struct2 Tryz.underlying26 hf
  rw [Tryz.cellsZ] at hs
  obtain ⟨l⟩ := cs
  match l, hs with
  | [v0, v1], _ =>
    have h0' : DataW.trod enc Tryz.prog W 0 (fun _ => true) true n 4 [v0] = some y0 := by
      have e := h0
      simp only [Tryz.cellsB] at e
      simpa [Value.cells] using e
    have h1' : DataW.trod enc Tryz.prog W 0 (fun _ => true) true n 24 [v1] = some y1 := by
      have e := h1
      simp only [Tryz.cellsN] at e
      simpa [Value.cells] using e
    obtain ⟨b, e0, _⟩ := DataW.trod_bool Tryz.underlying4 h0'
    obtain ⟨y2, n2, _, _, h2⟩ := trod_struct1 Tryz.underlying24 h1'
    have h2' : DataW.trod enc Tryz.prog W 0 (fun _ => true) true n2 22 [v1] = some y2 := by
      have e := h2
      simp only [Tryz.cellsL] at e
      simpa using e
    injection e0 with e0
    subst e0
    have hsl : ∃ a len cap, v1 = .slice a len cap := by
      rcases open_ints Tryz.underlying22 Tryz.underlying92 (by kernel_rfl) h2' with ⟨hcs, _⟩ | ⟨x, l, c, zs, hcs, _⟩
      · injection hcs with hcs; exact ⟨_, _, _, hcs⟩
      · injection hcs with hcs; exact ⟨_, _, _, hcs⟩
    obtain ⟨a, len, cap, rfl⟩ := hsl
    obtain ⟨z, hz⟩ := open_words (enc := enc) (W := W) (a := a) (len := len) (cap := cap) (d := y2.1) (p := y2.2) ⟨n2, h2'⟩
    exact ⟨b, a, len, cap, z, rfl, hz⟩
end Go.Proofs.YtmiklffjffdkgaaGreatDoor
