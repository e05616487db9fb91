/- Rows of ints beside an assignment of names: what goes on. No conditions. -/
import Derived.Test.YtibigdblapgmdaaDoorVi
open Go.RowKit
set_option maxRecDepth 100000
namespace Go.Proofs.YtibigdblapgmdaaDoor
section
variable {base p b cp n m m' : Nat} {A : Option Addr} {vs : List V8} {xs : List ByteArray} {W W' : World} {v : Value} {ys : List Value}
/-- A slice of ints that a call builds. -/
abbrev OI (base : Nat) (W : World) (v : Value) (m : Nat) (ys : List Value) : Prop := W.ownsRow base 3 1 v m ys
theorem oi_keep (h : OI base W v m ys) (hk : KeepT base W W') : OI base W' v m ys := by
  refine ⟨h.1, ?_⟩
  rcases h.2 with h0 | ⟨g, cap, cur, h1, h2, h3, h4⟩
  · exact .inl h0
  · exact .inr ⟨g, cap, cur, h1, h2, hk.oth g _ _ _ h3 (by decide) (by decide), h4⟩
theorem Nms.grown (h : Nms base W p b A cp n vs xs) (ho : OI base W v m ys) (hg : W.grownBy W' v.ownBlock) : Nms base W' p b A cp n vs xs :=
  ⟨(hg.block p h.lt (fun e => own_ne_cells ho h.blk (by decide) e.symm)).trans h.blk, h.hp, h.hb, h.own.kept hg (own_type_ne h.own ho (by decide)),
    h.map.keep (hg.block b h.map.lt (fun e => by
      rcases ho.2 with ⟨h1, _⟩ | ⟨g, cap, cur, h1, _, h2, _⟩
      · rw [h1] at e; cases e
      · rw [h1] at e
        injection e with e
        exact h.map.not_cells ((show b = g from e).symm ▸ h2))), h.len, h.nil⟩
theorem oi_cell {k : Nat} {PA : Option Addr} {cp : Nat} {y : Value} (h : OI base W (.slice PA m cp) m ys) (hk : ys[k]? = some y) : ∃ gb, PA = some ⟨gb, 0, none⟩ ∧ W.cell? ⟨gb, k, none⟩ = some y := by
  rcases h.2 with ⟨_, h2⟩ | ⟨gb, cap, cur, h1, _⟩
  · have := h.1
    have h3 := (List.getElem?_eq_some_iff.1 hk).1
    omega
  · injection h1 with h1 _ _
    refine ⟨gb, h1, ?_⟩
    have h4 := h.cells (g := gb) (by rw [h1]; rfl) k y hk
    rwa [show (⟨gb, 0, none⟩ : Addr).add k = ⟨gb, k, none⟩ by unfold Addr.add; split <;> simp_all] at h4
/-- The eight cells from an address on, as a walk spells them. -/
abbrev Has8 (W : World) (ad : Addr) (a : V8) : Prop :=
  W.cell? ad = some (.int .i64 a.x0) ∧ W.cell? ⟨ad.block, ad.off + 1, none⟩ = some (.int .i64 a.x1) ∧ W.cell? ⟨ad.block, ad.off + 2, none⟩ = some (.int .i64 a.x2) ∧ W.cell? ⟨ad.block, ad.off + 3, none⟩ = some (.int .i64 a.x3) ∧ W.cell? ⟨ad.block, ad.off + 4, none⟩ = some (.int .i64 a.x4) ∧ W.cell? ⟨ad.block, ad.off + 5, none⟩ = some (.int .i64 a.x5) ∧ W.cell? ⟨ad.block, ad.off + 6, none⟩ = some (.int .i64 a.x6) ∧ W.cell? ⟨ad.block, ad.off + 7, none⟩ = some (.int .i64 a.x7)
theorem v8_cells {ad : Addr} {a : V8} (h : ∀ i, i < 8 → W.cell? (ad.add i) = some (.int .i64 (a.at_ i))) : Has8 W ad a := by
  have e : ∀ i, ad.add (i + 1) = ⟨ad.block, ad.off + (i + 1), none⟩ := fun i => by simp [Addr.add]
  have e0 : ad.add 0 = ad := by simp [Addr.add]
  have h0 := h 0 (by decide)
  have h1 := h 1 (by decide)
  have h2 := h 2 (by decide)
  have h3 := h 3 (by decide)
  have h4 := h 4 (by decide)
  have h5 := h 5 (by decide)
  have h6 := h 6 (by decide)
  have h7 := h 7 (by decide)
  rw [e0] at h0
  rw [e 0] at h1
  rw [e 1] at h2
  rw [e 2] at h3
  rw [e 3] at h4
  rw [e 4] at h5
  rw [e 5] at h6
  rw [e 6] at h7
  exact ⟨h0, h1, h2, h3, h4, h5, h6, h7⟩
theorem keep8 {B : Nat} {ad : Addr} {a : V8} (h : Hid (Has8 W ad a)) (hb : Below B W W') (hl : ad.block < B) : Hid (Has8 W' ad a) := by
  have e : ∀ o : Nat, W'.cell? ⟨ad.block, o, none⟩ = W.cell? ⟨ad.block, o, none⟩ := fun o => hb.cell hl
  exact ⟨(hb.cell hl).trans h.1, (e _).trans h.2.1, (e _).trans h.2.2.1, (e _).trans h.2.2.2.1, (e _).trans h.2.2.2.2.1, (e _).trans h.2.2.2.2.2.1, (e _).trans h.2.2.2.2.2.2.1, (e _).trans h.2.2.2.2.2.2.2⟩
theorem vinfoInt : (Tryd.prog.info? 3).map (fun i => (i.zero, i.size, i.bytes)) = some (some (.int .i64 0), 1, 8) := by kernel_rfl
end
end Go.Proofs.YtibigdblapgmdaaDoor
