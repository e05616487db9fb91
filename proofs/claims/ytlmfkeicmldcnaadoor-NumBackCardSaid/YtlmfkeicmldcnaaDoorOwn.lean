/- A block of the call's own, known whole; fresh. Conditions: at most 100000 words. -/
import Derived.Test.YtlmfkeicmldcnaaDoorNum
import Derived.Laws.CopyOwn
import Derived.Laws.MakeOwn
import Derived.OwnWalk
import Derived.Deep.DeepMust
open Go.RowKit
set_option maxRecDepth 100000
namespace Go.Proofs.YtlmfkeicmldcnaaDoor
/-- Block g holds just l, each by f, none frozen. -/
def Blk (f : Nat → Value) (t : TypeId) (w : World) (g : Nat) (l : List Nat) : Prop := w.heap[g]? = some (.cells (l.map f).toArray t (0, 0))
section
variable {f : Nat → Value} {t : TypeId} {w w' : World} {g : Nat} {l : List Nat}
theorem Blk.lt (h : Blk f t w g l) : g < w.heap.size := by
  rcases Nat.lt_or_ge g w.heap.size with hlt | hge
  · exact hlt
  · unfold Blk at h; rw [Array.getElem?_eq_none hge] at h; cases h
theorem Blk.cell (h : Blk f t w g l) {i x : Nat} (hx : l[i]? = some x) : w.cell? ⟨g, i, none⟩ = some (f x) := by
  rw [cell_of_row w g i _ t (0, 0) h]; simp [hx]
theorem Blk.frozen (h : Blk f t w g l) (i : Nat) : w.frozen? ⟨g, i, none⟩ = false := by
  unfold Blk at h; simp [World.frozen?, h]
theorem Blk.drewN (h : Blk f t w g l) (n : Nat) : Blk f t (w.drewN n) g l := h
theorem Blk.alloc (h : Blk f t w g l) (o : Obj) : Blk f t (w.alloc o) g l := (Below.heap_alloc w o g h.lt).trans h
theorem Blk.set_ (h : Blk f t w g l) (i v : Nat) : Blk f t (w.setCell ⟨g, i, none⟩ (f v)) g (l.set i v) := by
  unfold Blk at h ⊢
  simp [World.setCell, Array.getElem?_modify, h, List.map_set]
theorem Blk.far (h : Blk f t w g l) {p : Addr} (hp : g ≠ p.block) (u : Value) : Blk f t (w.setCell p u) g l := (Below.heap_setCell w p u g hp).trans h
theorem Blk.below {B : Nat} (h : Blk f t w g l) (hb : Below B w w') (hg : g < B) : Blk f t w' g l := (hb.block g hg).trans h
theorem Blk.grown {row : Option Nat} (h : Blk f t w g l) (hb : w.grownBy w' row) (hg : some g ≠ row) : Blk f t w' g l := (hb.block g h.lt hg).trans h
/-- A part of the block, read. -/
theorem Blk.rd (h : Blk f t w g l) {B : Nat} (hB : g < B) (off k : Nat) : Rd f w B (some ⟨g, off, none⟩) ((l.drop off).take k) := fun _ => by
  refine ⟨_, rfl, hB, fun j x hx => ?_⟩
  rw [List.getElem?_take] at hx
  split at hx
  · rw [List.getElem?_drop] at hx
    have e : (⟨g, off, none⟩ : Addr).add j = ⟨g, off + j, none⟩ := by unfold Addr.add; split <;> simp_all
    rw [e]
    exact h.cell hx
  · cases hx
theorem Blk.rd0 (h : Blk f t w g l) {B : Nat} (hB : g < B) : Rd f w B (some ⟨g, 0, none⟩) l := by
  have := h.rd hB 0 l.length
  rwa [List.drop_zero, List.take_length] at this
end
theorem made_zeros (w : World) (t : TypeId) (k : IntKind) (n : Nat) : Blk (fun x => .int k (x : Int)) t (w.alloc (.cells (madeCells #[.int k 0] n) t)) w.heap.size (List.replicate n 0) := by
  unfold Blk
  rw [heap_alloc_new]
  congr 2
  apply Array.ext
  · simp [size_madeCells]
  · intro i h1 h2
    simp [madeCells, Nat.mod_one]
theorem Tryd.infoU32 : (Tryd.prog.info? 30).map (fun i => (i.zero, i.size, i.bytes)) = some (some (.int .u32 0), 1, 4) := by kernel_rfl
theorem Tryd.infoU8 : (Tryd.prog.info? 5).map (fun i => (i.zero, i.size, i.bytes)) = some (some (.int .u8 0), 1, 1) := by kernel_rfl
theorem Tryd.infoInt : (Tryd.prog.info? 3).map (fun i => (i.zero, i.size, i.bytes)) = some (some (.int .i64 0), 1, 8) := by kernel_rfl
/-- make([]uint32, n). -/
theorem make_words (n : Nat) (hn : n ≤ 1000000) (w : World) : (Instr.makeSlice 23 (.int .i64 (n : Int)) (.int .i64 (n : Int))).run Tryd.prog w =
    .ok (.slice (some ⟨w.heap.size, 0, none⟩) n n) (w.alloc (.cells (madeCells #[.int .u32 0] n) 30)) := by
  obtain ⟨i0, hi0, hz0, hz1, hz2⟩ := info_parts Tryd.infoU32
  have h := run_make (P := Tryd.prog) w 23 30 i0 (.int .u32 0) Tryd.underlying23 hi0 hz0 .i64 .i64 n n (by omega) (by omega) (by rw [hz2]; omega) (by omega)
  simpa [hz1, Value.cells] using h
theorem made_u32 (w : World) (n : Nat) : Blk U32 30 (w.alloc (.cells (madeCells #[.int .u32 0] n) 30)) w.heap.size (List.replicate n 0) := made_zeros w _ _ n
theorem wpList_made {P : Program} {w w1 : World} {ops : Array Oper} {rest : List Oper} {o : Oper} {a : Act} {Q : Exit → Act → World → Prop} (hgd : o.guard = none) (l c : Operand) (t : TypeId) (hop : o.op = Op.makeSlice t l c)
    (v u r : Value) (hl : a.eval l = v) (hc : a.eval c = u) (hrun : (Instr.makeSlice t v u).run P w = .ok r w1) (h : wpList P ops Q rest (a.put o.dst r) w1) : wpList P ops Q (o :: rest) a w := by
  refine wpList_plain hgd fun K hK => ?_
  unfold Oper.wp
  simp [execOp, hop, hl, hc, hrun, Result.andThen]
  exact hK _ _ h
/-- The walk's step at a make([]uint32, n). -/
theorem wpList_words {w : World} {ops : Array Oper} {rest : List Oper} {o : Oper} {a : Act} {Q : Exit → Act → World → Prop} (hgd : o.guard = none) (l c : Operand) (hop : o.op = Op.makeSlice 23 l c)
    (n : Nat) (hl : a.eval l = .int .i64 (n : Int)) (hc : a.eval c = .int .i64 (n : Int)) (hn : n ≤ 1000000)
    (h : ∀ g w', Hid (g = w.heap.size) → Hid (Blk U32 30 w' g (List.replicate n 0)) → Below w.heap.size w w' → wpList Tryd.prog ops Q rest (a.put o.dst (.slice (some ⟨g, 0, none⟩) n n)) w') : wpList Tryd.prog ops Q (o :: rest) a w :=
  wpList_made hgd l c _ hop _ _ _ hl hc (make_words n hn w) (h _ _ rfl (made_u32 w n) ((Below.refl _ _).alloc (Nat.le_refl _) _))
theorem nth_U32 {l : List Nat} {B : Nat} {w : World} {A : Option Addr} (h : Rd U32 w B A l) : 0 < (l.map U32).length → ∃ ad, A = some ad ∧ ∀ j v, (l.map U32)[j]? = some v → w.cell? (ad.add j) = some v := fun h0 => by
  obtain ⟨ad, e, _, hc⟩ := h (by simpa using h0)
  refine ⟨ad, e, fun j v hv => ?_⟩
  rw [List.getElem?_map] at hv
  cases hx : l[j]? with
  | none => rw [hx] at hv; cases hv
  | some x => rw [hx] at hv; cases hv; exact hc j x hx
theorem one_U32 (l : List Nat) : ∀ v ∈ l.map U32, v.oneCell' = true := by
  intro v hv
  obtain ⟨x, _, rfl⟩ := List.mem_map.1 hv
  rfl
theorem splice_all {α : Type} (L cs : List α) (h : L.length = cs.length) : splice L 0 cs = cs := by simp [splice, h]
/-- What fresh leaves: a slice over a new block. -/
def NewWords (w : World) (ws : List Nat) (e : Ending) (w' : World) : Prop := ∃ g, e = .returned (.slice (some ⟨g, 0, none⟩) ws.length ws.length) ∧ w.heap.size ≤ g ∧ Blk U32 30 w' g ws ∧ Below w.heap.size w w'
set_option maxHeartbeats 400000 in
theorem fresh_any {A : Option Addr} {ws : List Nat} {n c : Nat} {w : World} (hn : n = ws.length) (h : Rd U32 w w.heap.size A ws) (hl : n ≤ 1000000) :
    Calls Tryd.prog 63 #[.slice A n c] w (NewWords w ws) := by
  have HN := hide hn
  have HR := hide h
  clear hn h
  go_enter Tryd.func63, Tryd.ntmps63
  go_wp2_with (first | (at_make; go_must (refine wpList_words rfl _ _ rfl n rfl rfl hl ?_; intro g w1 hg hb1 hbel)) | (refine wpList_copy_splice (o := ⟨some 9, _, _, _, _, _⟩) rfl (.tmp 7) (.tmp 8) _ _ rfl 30 Tryd.underlying23 (by kernel_rfl) _ _ _ _ _ _ rfl rfl g 0 ((List.replicate n 0).map U32) 30 hb1.out (ws.map U32) (by rw [List.length_map, ← HN.out]; exact (Nat.min_self n).symm) (fun h0 => ⟨rfl, nth_U32 (HR.out.below hbel) h0⟩) (by simp [← HN.out]) (one_U32 ws) w.heap.size w hbel (by rw [hg.out]; exact Nat.le_refl _) ?_; intro w2 hb2 hbel2))
  go_ret
  refine ⟨g, by rw [← HN.out]; rfl, by rw [hg.out]; exact Nat.le_refl _, ?_, hbel2⟩
  have h2 := hb2.out
  rw [splice_all _ _ (by simp [← HN.out])] at h2
  exact h2
def NewCan (w : World) (m : Nat) (e : Ending) (w' : World) : Prop := ∃ g, e = .returned (.slice (some ⟨g, 0, none⟩) (dl m) (dl m)) ∧ Hid (w.heap.size ≤ g) ∧ Hid (Blk U32 30 w' g (digs W32 m)) ∧ Hid (Below w.heap.size w w')
theorem fresh_can {A : Option Addr} {m c : Nat} {w : World} (h : Rd U32 w w.heap.size A (digs W32 m)) (hl : dl m ≤ 1000000) : Calls Tryd.prog 63 #[.slice A (dl m) c] w (NewCan w m) :=
  (fresh_any (show dl m = (digs W32 m).length from rfl) h hl).mono fun _ _ h => h
end Go.Proofs.YtlmfkeicmldcnaaDoor
