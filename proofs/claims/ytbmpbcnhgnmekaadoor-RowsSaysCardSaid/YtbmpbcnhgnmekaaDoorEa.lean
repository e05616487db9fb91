/- A range over an iterator that keeps its place in a cell of its own: the law for a loop over a known list of texts. No conditions but those stated. -/
import Derived.RangeFuncNested
import Derived.RangeFuncBound
import Derived.RangeFuncCalls
import Derived.RangeFuncLeaves
import Derived.Shelf.Abstract
import Derived.WalkKit
import Derived.OwnWalkIn
import Derived.TacticsInMore
import Derived.LoopNIn
import Derived.LoopIn
namespace Go.Proofs.YtbmpbcnhgnmekaaDoor
open Go.RowKit Go.Shelf
/-- The iterator's contract: it hands out the texts xs in their order; between two rounds it writes block B alone, and asks of a round that goes on what Kp says. -/
def SeqAt (F : Fence) (n : Nat) (P : Program) (g : Nat) (lb : Array Value) (B : Nat) (Kp : World → World → Prop) (xs : List ByteArray) (w : World) : Prop :=
  ∀ (l : Nat) (J Jx : Nat → World → Prop) (W : World), Kp w W → (∀ k V v, J k V → J k (V.setCell ⟨B, 0, none⟩ v)) →
    (∀ k x V, J k V → xs[k]? = some x → YieldAt F (n - 1) P l #[.string x] V fun e V' => (e = .returned (.bool true) ∧ J (k + 1) V' ∧ Kp V V') ∨ (e = .returned (.bool false) ∧ Jx (k + 1) V')) →
    J 0 W → CallsIn F n P g (#[.func (.yield l) #[] #[]] ++ lb) W fun e W' => (∃ v, e = .returned v) ∧ (J xs.length W' ∨ ∃ k, k ≤ xs.length ∧ Jx k W')
/-- How a round may be left. -/
def AtPost (Kp : World → World → Prop) (I : Nat → World → Prop) (Ix : Code → Nat → World → Prop) (k : Nat) (V : World) : Exit → Act → World → Prop
  | .normal, _, V' => KeepsOthers V V' ∧ Kp V V' ∧ I k V'
  | .ret, _, V' => KeepsOthers V V' ∧ Ix .ret k V'
  | .exit id, _, V' => KeepsOthers V V' ∧ Ix (.exit id) k V'
  | .goto t, _, V' => KeepsOthers V V' ∧ Ix (.goto t) k V'
  | .panic _, _, _ => False
  | .outgrown, _, _ => False
/-- Blocks d and d + 1 hold the rounds' deferred calls (none) and the loop's record r. -/
def Live (d : Nat) (r : Loop) (V : World) : Prop := V.heap[d + 1]? = some (.loop r) ∧ V.heap[d]? = some (.deferred (some []))
section
variable {d : Nat} {r r' : Loop} {V V' : World} {P : Program} {I : Nat → World → Prop} {k : Nat}
theorem Live.lt (h : Live d r V) : d + 1 < V.heap.size := (Array.getElem?_eq_some_iff.1 h.1).1
theorem Live.put (h : Live d r V) (r' : Loop) : Live d r' (V.putObj (d + 1) (.loop r')) := ⟨World.putObj_heap_same h.lt, (World.putObj_heap_other (by omega)).trans h.2⟩
theorem Live.keep (h : Live d r V) (hk : KeepsOthers V V') : Live d r V' := ⟨hk.same _ _ h.1 rfl, hk.same _ _ h.2 rfl⟩
theorem Live.set (h : Live d r V) {B : Nat} (hB : B < d) (v : Value) : Live d r (V.setCell ⟨B, 0, none⟩ v) :=
  ⟨(Below.heap_setCell _ _ _ _ (by show d + 1 ≠ B; omega)).trans h.1, (Below.heap_setCell _ _ _ _ (by show d ≠ B; omega)).trans h.2⟩
theorem OwnFrom.live {w : World} (hI : OwnFrom d I) (h : Live d r V) (hi : I k V) (r' : Loop) : I k (V.putObj (d + 1) (.loop r')) := OwnFrom.putObj hI _ hi (by omega) h.1 rfl
theorem Live.fin (h : Live d { r with state := .busy } V) (jump : Option Code) :
    (Instr.endRound (d + 1) jump).run P V = .ok (.bool jump.isNone) (V.putObj (d + 1) (.loop { r with state := if jump.isNone then .ready else .done, pending := jump })) := by
  have h2 := run_endRound (P := P) (r := { r with state := .busy }) jump h.1
  exact h2
end
variable {F : Fence} {n : Nat} {P : Program}
/-- The loop over such an iterator. -/
theorem wpIn_range_at {g : Operand} {ps : Array Tmp} {assign body : Code} {Q : Exit → Act → World → Prop} {a : Act} {w : World}
    (hro : F.round = none) (h1 : 1 ≤ n) {gf : Nat} {lb : Array Value} (hg : a.eval g = .func (.func gf) #[] lb) (hFg : F.fn gf) (eg : ∀ args w, (callFunc gf args).run P w = .ok (.enter gf args) w)
    {B : Nat} (hB : B < w.heap.size) {Kp : World → World → Prop} {xs : List ByteArray} (hseq : SeqAt F (n - 1) P gf lb B Kp xs w) (hps : ps.size = 1)
    (hKr : ∀ V V' : World, (∀ i, i < w.heap.size → V'.heap[i]? = V.heap[i]?) → Kp V V') (hKt : ∀ {A C D : World}, Kp A C → Kp C D → Kp A D)
    (I : Nat → World → Prop) (Ix : Code → Nat → World → Prop) (hI : OwnFrom w.heap.size I) (hIx : ∀ c, OwnFrom w.heap.size (Ix c)) (hIB : ∀ k V v, I k V → I k (V.setCell ⟨B, 0, none⟩ v)) (h0 : I 0 w) (a₁ : ByteArray → Act)
    (hassign : ∀ (l : Nat) (x : ByteArray) (V : World) (K : Act → World → Prop), K (a₁ x) V →
      assign.wpIn (F.inRound l) (n - 1 - 1) P (Exit.then K (fun _ _ _ => False)) { tmps := (ps.zip #[.string x]).foldl (fun t (p, v) => t.setIfInBounds p v) a.tmps, defers := [] } V)
    (hbody : ∀ (l k : Nat) (x : ByteArray) (V : World), I k V → xs[k]? = some x → w.heap.size < V.heap.size → body.wpIn (F.inRound l) (n - 1 - 1) P (AtPost Kp I Ix (k + 1) V) (a₁ x) V)
    (hdone : ∀ (D : Nat) (V : World), w.heap.size ≤ D → I xs.length V → V.heap[D]? = some (.deferred (some [])) → Q .normal { a with defers := { target := .collected D, args := #[] } :: a.defers } V)
    (hstop : ∀ (D : Nat) (c : Code) (k : Nat) (V : World), w.heap.size ≤ D → Ix c k V → V.heap[D]? = some (.deferred (some [])) → c.wpIn F n P Q { a with defers := { target := .collected D, args := #[] } :: a.defers } V) :
    (Code.rangeFunc g ps assign body).wpIn F n P Q a w := by
  refine wpIn_rangeFunc fun fn hfn => ?_
  rw [hro]
  obtain ⟨r0, hr0⟩ : ∃ r0 : Loop, r0 = { state := .ready, pending := none, fn, tmps := a.tmps, params := ps, assign, body, defers := w.heap.size } := ⟨_, rfl⟩
  obtain ⟨W1, hW1⟩ : ∃ W1, W1 = (w.alloc (.deferred (some []))).alloc (.loop r0) := ⟨_, rfl⟩
  have hlow : ∀ i, i < w.heap.size → W1.heap[i]? = w.heap[i]? := fun i hi => by
    rw [hW1]; exact (Below.heap_alloc _ _ i (by simp; omega)).trans (Below.heap_alloc _ _ i hi)
  have hl1 : Live w.heap.size r0 W1 := by
    rw [hW1]
    refine ⟨?_, (Below.heap_alloc _ _ _ (by simp)).trans (World.alloc_heap_new w _)⟩
    have := World.alloc_heap_new (w.alloc (.deferred (some []))) (.loop r0)
    rwa [World.size_alloc] at this
  have hI1 : I 0 W1 := by rw [hW1]; exact hI.alloc _ (hI.alloc _ h0)
  refine ⟨w.heap.size + 1, [{ target := .collected w.heap.size, args := #[] }], W1, { target := .fn (.func gf) lb, args := #[.func (.yield (w.heap.size + 1)) #[] #[]] }, W1, gf,
    #[.func (.yield (w.heap.size + 1)) #[] #[]] ++ lb, W1, ?_, ?_, ?_, ?_, fun _ => h1, ?_⟩
  · rw [hW1, hr0]; exact run_enterLoop_outer _ _ _ _ _
  · simp only [resolve, hg]
    simp [go_sem]
  · intro f' hf'; simp [Target.leads] at hf'; subst hf'; exact hFg
  · simp [invoke, go_sem, eg]
  have hput : ∀ (V : World) (o : Obj) (i : Nat), i < w.heap.size → (V.putObj (w.heap.size + 1) o).heap[i]? = V.heap[i]? := fun V o i hi => World.putObj_heap_other (by omega)
  refine (hseq (w.heap.size + 1) (fun k V => I k V ∧ Live w.heap.size r0 V) (fun k V => ∃ c, Ix c k V ∧ Live w.heap.size { r0 with state := .done, pending := some c } V) W1 (hKr _ _ hlow)
    (fun k V v h => ⟨hIB k V v h.1, h.2.set hB v⟩) ?_ ⟨hI1, hl1⟩).mono ?_
  · rintro k x V ⟨hi, hl⟩ hx
    have hy := run_yield (P := P) (args := #[.string x]) hl.1 (by rw [hr0]; exact hps.symm)
    refine ⟨_, _, _, _, hy, roundIn_of_wpIn (by rw [hr0]; exact hfn) ?_⟩
    have ha := hassign (w.heap.size + 1) x V (fun a₁ w₁ => ∃ w₂, (Instr.beginRound (w.heap.size + 1)).run P w₁ = .ok () w₂ ∧ body.wpIn (F.inRound (w.heap.size + 1)) (n - 1 - 1) P (roundPost P (w.heap.size + 1) fun e V' => (e = .returned (.bool true) ∧ (I (k + 1) V' ∧ Live w.heap.size r0 V') ∧ Kp V V') ∨ (e = .returned (.bool false) ∧ ∃ c, Ix c (k + 1) V' ∧ Live w.heap.size { r0 with state := .done, pending := some c } V')) a₁ w₂)
      ⟨_, run_beginRound hl.1 (by rw [hr0]), ?_⟩
    · rw [hr0] at ha ⊢; exact ha
    · have hlb := hl.put { r0 with state := .busy }
      have hkb : Kp V (V.putObj (w.heap.size + 1) (.loop { r0 with state := .busy })) := hKr _ _ (hput V _)
      refine wpIn_mono (hbody _ k x _ (OwnFrom.live (w := w) hI hl hi _) hx (by have := hlb.lt; omega)) ?_
      rintro e a3 V3 hp
      have out : ∀ (c : Code), KeepsOthers (V.putObj (w.heap.size + 1) (.loop { r0 with state := .busy })) V3 → Ix c (k + 1) V3 → ∃ v V4, (Instr.endRound (w.heap.size + 1) (some c)).run P V3 = .ok v V4 ∧ ((Ending.returned v = .returned (.bool true) ∧ (I (k + 1) V4 ∧ Live w.heap.size r0 V4) ∧ Kp V V4) ∨ (Ending.returned v = .returned (.bool false) ∧ ∃ c, Ix c (k + 1) V4 ∧ Live w.heap.size { r0 with state := .done, pending := some c } V4)) := fun c hk hi3 => by
        have hl3 := hlb.keep hk
        exact ⟨_, _, hl3.fin (some c), .inr ⟨rfl, c, OwnFrom.live (w := w) (hIx c) hl3 hi3 _, hl3.put _⟩⟩
      cases e with
      | normal =>
        obtain ⟨hk3, hkp3, hi3⟩ := hp
        have hl3 := hlb.keep hk3
        refine ⟨_, _, hl3.fin none, .inl ⟨rfl, ⟨OwnFrom.live (w := w) hI hl3 hi3 _, ?_⟩, hKt (hKt hkb hkp3) (hKr _ _ (hput V3 _))⟩⟩
        have := hl3.put r0
        rw [hr0] at this ⊢
        exact this
      | ret => exact out _ hp.1 hp.2
      | exit id => exact out _ hp.1 hp.2
      | goto t => exact out _ hp.1 hp.2
      | panic ch => exact hp.elim
      | outgrown => exact hp.elim
  · rintro e W2 ⟨⟨v, rfl⟩, (⟨hi, hl⟩ | ⟨k, _, c, hi, hl⟩)⟩
    · refine ⟨none, _, ?_, hdone w.heap.size _ (Nat.le_refl _) (OwnFrom.live (w := w) hI hl hi { r0 with state := .exhausted }) ((World.putObj_heap_other (by omega)).trans hl.2)⟩
      have := run_endLoop (P := P) hl.1 (by rw [hr0]; simp)
      rw [this, hr0]
    · refine ⟨some c, _, ?_, hstop w.heap.size c k _ (Nat.le_refl _) (OwnFrom.live (w := w) (hIx c) hl hi { { r0 with state := .done, pending := some c } with state := .exhausted }) ((World.putObj_heap_other (by omega)).trans hl.2)⟩
      exact run_endLoop (P := P) hl.1 (by simp)
end Go.Proofs.YtbmpbcnhgnmekaaDoor
