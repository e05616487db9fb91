/- Maps keyed by vectors; package dims: Names. No conditions. -/
import Derived.Test.YtibigdblapgmdaaDoorVg
import Derived.Test.YtibigdblapgmdaaDoorVf
import Derived.Test.YtibigdblapgmdaaDoorYb
import Derived.Maps.OwnSet
import Derived.Maps.OwnOps
import Derived.DeepKeys4
import Derived.BigQuiet
import Derived.StillTailTactics
open Go.RowKit
set_option maxRecDepth 100000
namespace Go.Proofs.YtibigdblapgmdaaDoor
theorem vlaidOut : laidOutB Tryd.prog = true := by kernel_rfl
theorem vkeyed : Go.Maps.Keyed Tryd.prog 24 :=
  Go.Maps.Keyed.of_law (deep_law_laid vlaidOut (m := 2) (by omega) (of_decide_eq_true (by kernel_rfl)) (by kernel_rfl) (by rw [Tryd.underlying24]))
/-- Exponents that an int holds. -/
def V8.wf (a : V8) : Prop := ∀ k, k < 8 → (Lit.int .i64 (a.at_ k)).wf = true
/-- How a vector reads as a key. -/
def vlit (a : V8) : Lit := .string (keyBytes [.int .i64 a.x0, .int .i64 a.x1, .int .i64 a.x2, .int .i64 a.x3, .int .i64 a.x4, .int .i64 a.x5, .int .i64 a.x6, .int .i64 a.x7])
theorem vlits (a : V8) (h : a.wf) : Tryd.prog.keyLits (Tryd.prog.types.size + 1) 24 a.v.cells.toList = some [.int .i64 a.x0, .int .i64 a.x1, .int .i64 a.x2, .int .i64 a.x3, .int .i64 a.x4, .int .i64 a.x5, .int .i64 a.x6, .int .i64 a.x7] := by
  have hs : ∃ m, Tryd.prog.types.size = m + 1 := ⟨Tryd.prog.types.size - 1, by kernel_rfl⟩
  obtain ⟨m, hm⟩ := hs
  have c1 : Tryd.prog.cellsOf 24 = 8 := by kernel_rfl
  have c2 : Tryd.prog.cellsOf 3 = 1 := by kernel_rfl
  have w0 := h 0 (by decide); have w1 := h 1 (by decide); have w2 := h 2 (by decide); have w3 := h 3 (by decide)
  have w4 := h 4 (by decide); have w5 := h 5 (by decide); have w6 := h 6 (by decide); have w7 := h 7 (by decide)
  simp only [V8.at_, V8.l, List.getD_cons_zero, List.getD_cons_succ] at w0 w1 w2 w3 w4 w5 w6 w7
  rw [hm]
  simp [Program.keyLits, Value.cells, Tryd.underlying24, Tryd.underlying3, c1, c2, show List.range 8 = [0, 1, 2, 3, 4, 5, 6, 7] from rfl, w0, w1, w2, w3, w4, w5, w6, w7]
theorem vkeyOf (a : V8) (h : a.wf) : keyOf Tryd.prog 24 a.v = some (vlit a) := by
  have hf : (V8.v a).formed Tryd.prog 24 = true := by
    have c1 : Tryd.prog.cellsOf 24 = 8 := by kernel_rfl
    simp [Value.formed, Tryd.underlying24, c1]
  have hk : Tryd.prog.keyType 24 = true := by kernel_rfl
  unfold keyOf
  rw [Tryd.underlying24]
  simp only [hk, hf, Bool.and_self, if_true]
  rw [vlits a h]
  rfl
theorem vlit_inj {a b : V8} (ha : a.wf) (hb : b.wf) (h : vlit a = vlit b) : a = b := by
  have h1 := vkeyed.inj (vkeyOf a ha) (h ▸ vkeyOf b hb)
  refine V8.ext_l ?_
  injection h1 with h1
  injection h1 with h1
  simp at h1
  simp [V8.l, h1]
theorem visKey (a : V8) (h : a.wf) : WideAt.IsKeyLit (vlit a) := vkeyed.key (vkeyOf a h)
theorem vzero (w : World) : (zeroValue 3).run Tryd.prog w = .ok (.int .i64 0) w := by kernel_rfl
/-- Block b is a map from the vectors vs to their places. -/
def MapIs (w : World) (b : Nat) (vs : List V8) : Prop := ∃ D : DataW Unit, w.ownsMap Tryd.prog 24 (plainElem Tryd.prog 3) b vs.length D ∧ Maps.IsMap D ∧
  ∀ a : V8, a.wf → (Maps.has D (vlit a) = decide (a ∈ vs)) ∧ ∀ i : Nat, vs[i]? = some a → D.atKey (vlit a) (.lit (.int .i64 0)) = .lit (.int .i64 (i : Int))
theorem mapIs_new (w : World) : MapIs (w.alloc (.map #[] 0)) w.heap.size [] :=
  ⟨.map [], World.ownsMap_made _ _ _ _, Maps.isMap_empty, fun a _ => ⟨rfl, fun i hi => by simp at hi⟩⟩
theorem MapIs.look {w : World} {b : Nat} {vs : List V8} {a : V8} (h : MapIs w b vs) (ha : a.wf) :
    ∃ c : Int, (∀ n, (Instr.lookup 53 (.map (some b)) a.v true).run Tryd.prog (w.drewN n) = .ok (.tuple #[.int .i64 c, .bool (decide (a ∈ vs))]) (w.drewN n)) ∧ ∀ i : Nat, vs[i]? = some a → c = i := by
  obtain ⟨D, h1, _, h3⟩ := h
  obtain ⟨hh, hi⟩ := h3 a ha
  obtain ⟨c, _, hc, _⟩ := h1.lookup_int vkeyed Tryd.underlying53 Tryd.underlying3 (vzero _) (vkeyOf a ha)
  refine ⟨c, fun n => ?_, fun i h5 => ?_⟩
  · have hd : (w.drewN n).ownsMap Tryd.prog 24 (plainElem Tryd.prog 3) b vs.length D := h1
    obtain ⟨v, ps, hrun, hv⟩ := hd.look_ok vkeyed Tryd.underlying53 (vzero _) (plainElem_int Tryd.underlying3 (by decide)) (vkeyOf a ha)
    rw [hc] at hv
    obtain ⟨c', rfl, hc', _⟩ := plainElem_int_inv Tryd.underlying3 hv
    simp only [Prod.mk.injEq, DataW.lit.injEq, Lit.int.injEq, true_and] at hc'
    rw [hrun, hh, hc'.1]
  · rw [hi i h5] at hc
    simp at hc
    exact hc.symm
theorem MapIs.put {w : World} {b : Nat} {vs : List V8} {a : V8} (h : MapIs w b vs) (ha : a.wf) (hn : a ∉ vs) (hl : vs.length ≤ 1000000) :
    ∃ w', (Instr.mapUpdate 53 (.map (some b)) a.v (.int .i64 (vs.length : Int))).run Tryd.prog w = .ok () w' ∧ MapIs w' b (vs ++ [a]) ∧ w.grownBy w' (some b) := by
  obtain ⟨D, h1, h2, h3⟩ := h
  obtain ⟨w', hr, ho, hg⟩ := h1.update vkeyed Tryd.underlying53 (by unfold maxLen; omega) (vkeyOf a ha) (plainElem_int Tryd.underlying3 (a := (vs.length : Int)) (WalkArith.wf_i64 (by omega)))
  refine ⟨w', hr, ⟨_, by simpa using ho, h2.put _ _, fun c hc => ?_⟩, hg⟩
  by_cases e : c = a
  · subst e
    refine ⟨by rw [Maps.has_put_same h2 (visKey c hc)]; simp, fun i hi => ?_⟩
    rw [Maps.atKey_put_same h2 (visKey c hc)]
    have hi2 : i = vs.length := by
      rcases Nat.lt_trichotomy i vs.length with h5 | h5 | h5
      · rw [List.getElem?_append_left h5] at hi
        exact absurd (List.mem_of_getElem? hi) hn
      · exact h5
      · rw [List.getElem?_eq_none (by simp; omega)] at hi; cases hi
    rw [hi2]
  · have hne : vlit c ≠ vlit a := fun h5 => e (vlit_inj hc ha h5)
    refine ⟨by rw [Maps.has_put_other hne, (h3 c hc).1]; simp [e], fun i hi => ?_⟩
    rw [Maps.atKey_put_other hne]
    refine (h3 c hc).2 i ?_
    rcases Nat.lt_or_ge i vs.length with h5 | h5
    · rwa [List.getElem?_append_left h5] at hi
    · rw [List.getElem?_append_right h5] at hi
      cases hk : i - vs.length with
      | zero => rw [hk] at hi; simp at hi; exact absurd hi.symm e
      | succ k => rw [hk] at hi; simp at hi
theorem MapIs.keep {w w' : World} {b : Nat} {vs : List V8} (h : MapIs w b vs) (hb : w'.heap[b]? = w.heap[b]?) : MapIs w' b vs := by
  obtain ⟨D, ⟨es, clock, h1, F, hs, hD⟩, h2, h3⟩ := h
  exact ⟨D, ⟨es, clock, hb.trans h1, F, hs, hD⟩, h2, h3⟩
theorem MapIs.lt {w : World} {b : Nat} {vs : List V8} (h : MapIs w b vs) : b < w.heap.size := by
  obtain ⟨D, h1, _⟩ := h; exact h1.lt
/-- The block of an assignment of names: p; its map b; the list of names at A; the vectors in their order, the names. -/
structure Nms (base : Nat) (W : World) (p b : Nat) (A : Option Addr) (cp n : Nat) (vs : List V8) (xs : List ByteArray) : Prop where
  blk : W.heap[p]? = some (.cells #[.slice A n cp, .map (some b)] 55 (0, 0))
  hp : base ≤ p
  hb : base ≤ b
  own : W.ownsRow base 9 1 (.slice A n cp) n (xs.map Value.string)
  map : MapIs W b vs
  len : vs.length = n
  nil : n = 0 → A = none ∧ cp = 0
/-- Below base nothing has turned; blocks of other kinds are as they were. -/
structure KeepT (base : Nat) (W W' : World) : Prop where
  bel : Below base W W'
  oth : ∀ (g : Nat) (cs : Array Value) (t : TypeId) (fr : Nat × Nat), W.heap[g]? = some (.cells cs t fr) → t ≠ 9 → t ≠ 55 → W'.heap[g]? = some (.cells cs t fr)
theorem KeepT.refl (base : Nat) (W : World) : KeepT base W W := ⟨Below.refl _ _, fun _ _ _ _ h _ _ => h⟩
theorem KeepT.trans {base : Nat} {a b c : World} (h : KeepT base a b) (k : KeepT base b c) : KeepT base a c :=
  ⟨h.bel.trans k.bel, fun g cs t fr h1 h2 h3 => k.oth g cs t fr (h.oth g cs t fr h1 h2 h3) h2 h3⟩
theorem KeepT.of {base : Nat} {a b : World} (h : Hid (Below a.heap.size a b)) (hb : base ≤ a.heap.size) : KeepT base a b :=
  ⟨h.out.mono hb, fun g cs t fr h1 _ _ => (h.out.block g (Array.getElem?_eq_some_iff.1 h1).1).trans h1⟩
section
variable {base p b cp n : Nat} {A : Option Addr} {vs : List V8} {xs : List ByteArray} {W W' : World}
theorem Nms.lt (h : Nms base W p b A cp n vs xs) : p < W.heap.size := (Array.getElem?_eq_some_iff.1 h.blk).1
theorem Nms.up (h : Nms base W p b A cp n vs xs) (hb : Hid (Below W.heap.size W W')) : Nms base W' p b A cp n vs xs :=
  ⟨(hb.out.block p h.lt).trans h.blk, h.hp, h.hb, vown_up h.own hb, h.map.keep (hb.out.block b h.map.lt), h.len, h.nil⟩
theorem Nms.al (h : Nms base W p b A cp n vs xs) (o : Obj) : Nms base (W.alloc o) p b A cp n vs xs := h.up ((Below.refl _ _).alloc (Nat.le_refl _) o)
theorem Nms.c0 (h : Nms base W p b A cp n vs xs) : W.cell? ⟨p, 0, none⟩ = some (.slice A n cp) := by simp [World.cell?, h.blk]
theorem Nms.c1 (h : Nms base W p b A cp n vs xs) : W.cell? ⟨p, 1, none⟩ = some (.map (some b)) := by simp [World.cell?, h.blk]
theorem Nms.f0 (h : Nms base W p b A cp n vs xs) : W.frozen? ⟨p, 0, none⟩ = false := by simp [World.frozen?, h.blk]
theorem Nms.f1 (h : Nms base W p b A cp n vs xs) : W.frozen? ⟨p, 1, none⟩ = false := by simp [World.frozen?, h.blk]
end
theorem MapIs.not_cells {w : World} {b : Nat} {vs : List V8} (h : MapIs w b vs) {cs : Array Value} {t : TypeId} {fr : Nat × Nat} (hc : w.heap[b]? = some (.cells cs t fr)) : False := by
  obtain ⟨D, ⟨es, clock, h1, _⟩, _⟩ := h
  rw [h1] at hc
  cases hc
theorem Nms.ne_pb {base p b cp n : Nat} {A : Option Addr} {vs : List V8} {xs : List ByteArray} {W : World} (h : Nms base W p b A cp n vs xs) : p ≠ b := fun e => h.map.not_cells (e ▸ h.blk)
theorem Nms.row_ne {base p b cp n : Nat} {A : Option Addr} {vs : List V8} {xs : List ByteArray} {W : World} (h : Nms base W p b A cp n vs xs) : (Value.slice A n cp).ownBlock = none ∨ (Value.slice A n cp).ownBlock ≠ some b := by
  rcases h.own.2 with ⟨h1, _⟩ | ⟨g, cap, cur, h1, _, h2, _⟩
  · exact .inl (by rw [h1]; rfl)
  · refine .inr fun e => ?_
    rw [h1] at e
    injection e with e
    exact h.map.not_cells ((show g = b from e) ▸ h2)
theorem own_ne_cells {w : World} {base q : Nat} {e t : TypeId} {size : Nat} {v : Value} {n : Nat} {xs : List Value} {cs : Array Value} {fr : Nat × Nat} (h : w.ownsRow base e size v n xs) (hq : w.heap[q]? = some (.cells cs t fr)) (ht : t ≠ e) : v.ownBlock ≠ some q := by
  rcases h.2 with ⟨h1, _⟩ | ⟨g, cap, cur, h1, _, h2, _⟩
  · rw [h1]; intro e; cases e
  · intro e
    rw [h1] at e
    injection e with e
    rw [← show g = q from e, h2] at hq
    injection hq with hq
    injection hq with _ h4
    exact ht h4.symm
theorem grownBy_setCell (w : World) (p i : Nat) (u : Value) : w.grownBy (w.setCell ⟨p, i, none⟩ u) (some p) :=
  ⟨rfl, rfl, rfl, by simp [World.setCell], fun k _ hk => Below.heap_setCell _ _ _ _ (fun e => hk (by rw [e]))⟩
theorem Nms.row_ne_p {base p b cp n : Nat} {A : Option Addr} {vs : List V8} {xs : List ByteArray} {W : World} (h : Nms base W p b A cp n vs xs) : (Value.slice A n cp).ownBlock ≠ some p :=
  own_ne_cells h.own h.blk (by decide)
theorem heap_lt (w : World) (o : Obj) : w.heap.size < (w.alloc o).heap.size := by simp
theorem newNames_h (w : World) : Calls Tryd.prog 11 #[] w fun e w' => ∃ p b, e = .returned (.pointer (some ⟨p, 0, none⟩)) ∧ Nms w.heap.size w' p b none 0 0 [] [] ∧ Hid (Below w.heap.size w w') := by
  have hmm := @run_makeMap Tryd.prog
  go_enter Tryd.func11, Tryd.ntmps11
  go_wp2
  go_ret
  refine ⟨w.heap.size + 1, w.heap.size, rfl, ⟨?_, by omega, Nat.le_refl _, World.ownsRow_nil _ _ _ _, ?_, rfl, fun _ => ⟨rfl, rfl⟩⟩, ((Below.refl _ _).alloc (Nat.le_refl _) _).alloc (by simp) _⟩
  · have h := heap_alloc_new (w.alloc (.map #[] 0)) (.cells #[.slice none 0 0, .map (some w.heap.size)] 55)
    simpa using h
  · exact (mapIs_new w).keep (Below.heap_alloc _ _ _ (by simp))
theorem put_taken {base p b cp n : Nat} {A : Option Addr} {vs : List V8} {xs : List ByteArray} {W : World} {a : V8} {s : ByteArray} (h : Nms base W p b A cp n vs xs) (ha : a.wf) (hm : a ∈ vs) :
    Calls Tryd.prog 12 #[.pointer (some ⟨p, 0, none⟩), a.v, .string s] W (RetV W false) := by
  have hl := h.lt
  obtain ⟨W1, hW1⟩ : ∃ X, X = W.alloc (.cells a.c.toArray 24) := ⟨_, rfl⟩
  have HA : At W1 W.heap.size a.c := by rw [hW1]; exact at_new0 W a.c _
  have HN : Nms base W1 p b A cp n vs xs := by rw [hW1]; exact h.al _
  have HB : Hid (Below W.heap.size W W1) := by rw [hW1]; exact (Below.refl _ _).alloc (Nat.le_refl _) _
  obtain ⟨c, hlook, hc⟩ := HN.map.look ha
  rw [decide_eq_true hm] at hlook
  have n1 := HN.c1
  clear hc ha hm h
  have HW1 := vhide hW1
  clear hW1
  go_enter Tryd.func12, Tryd.ntmps12
  go_wp2
  rw [← HW1.out]
  clear HW1
  obtain ⟨a0, a1, a2, a3, a4, a5, a6, a7⟩ := HA.v8
  go_quiet (fail)
  go_wp2
  go_ret
  exact ⟨rfl, ybelow_drewN HB.out nq⟩
theorem put_empty {base p b cp n : Nat} {A : Option Addr} {vs : List V8} {xs : List ByteArray} {W : World} {a : V8} (h : Nms base W p b A cp n vs xs) (ha : a.wf) (hm : ¬ a ∈ vs) :
    Calls Tryd.prog 12 #[.pointer (some ⟨p, 0, none⟩), a.v, .string ⟨#[]⟩] W (RetV W false) := by
  have hl := h.lt
  obtain ⟨W1, hW1⟩ : ∃ X, X = W.alloc (.cells a.c.toArray 24) := ⟨_, rfl⟩
  have HA : At W1 W.heap.size a.c := by rw [hW1]; exact at_new0 W a.c _
  have HN : Nms base W1 p b A cp n vs xs := by rw [hW1]; exact h.al _
  have HB : Hid (Below W.heap.size W W1) := by rw [hW1]; exact (Below.refl _ _).alloc (Nat.le_refl _) _
  obtain ⟨c, hlook, hc⟩ := HN.map.look ha
  rw [decide_eq_false hm] at hlook
  have n1 := HN.c1
  clear hc ha hm h
  have HW1 := vhide hW1
  clear hW1
  go_enter Tryd.func12, Tryd.ntmps12
  go_wp2
  rw [← HW1.out]
  clear HW1
  obtain ⟨a0, a1, a2, a3, a4, a5, a6, a7⟩ := HA.v8
  go_quiet (fail)
  go_wp2
  go_ret
  exact ⟨rfl, ybelow_drewN HB.out nq⟩
set_option maxHeartbeats 2000000 in
theorem put_new {base p b cp n : Nat} {A : Option Addr} {vs : List V8} {xs : List ByteArray} {W : World} {a : V8} {s : ByteArray} (h : Nms base W p b A cp n vs xs) (hbase : base ≤ W.heap.size) (hn : n ≤ 1000000) (ha : a.wf) (hm : ¬ a ∈ vs) (hs : s.toList.isEmpty = false) :
    Calls Tryd.prog 12 #[.pointer (some ⟨p, 0, none⟩), a.v, .string s] W fun e w' => e = .returned (.bool true) ∧ ∃ A' cp', Nms base w' p b A' cp' (n + 1) (vs ++ [a]) (xs ++ [s]) ∧ KeepT base W w' := by
  have hl := h.lt
  obtain ⟨W1, hW1⟩ : ∃ X, X = W.alloc (.cells a.c.toArray 24) := ⟨_, rfl⟩
  have HA : At W1 W.heap.size a.c := by rw [hW1]; exact at_new0 W a.c _
  have HN : Nms base W1 p b A cp n vs xs := by rw [hW1]; exact h.al _
  have HB : Hid (Below W.heap.size W W1) := by rw [hW1]; exact (Below.refl _ _).alloc (Nat.le_refl _) _
  obtain ⟨c, hlook, hc⟩ := HN.map.look ha
  rw [decide_eq_false hm] at hlook
  have n1 := HN.c1
  clear hc h
  have HM := vhide hm
  have HBS := vhide hbase
  have n0 := HN.c0
  have hs2 : (!s.toList.isEmpty) = true := by rw [hs]; rfl
  clear hm hbase
  have HW1 := vhide hW1
  clear hW1
  go_enter Tryd.func12, Tryd.ntmps12
  go_wp2
  rw [← HW1.out]
  clear HW1
  obtain ⟨a0, a1, a2, a3, a4, a5, a6, a7⟩ := HA.v8
  go_quiet (fail)
  go_wp2_with fail
  obtain ⟨W2, hW2⟩ : ∃ X, X = W1.drewN nq := ⟨_, rfl⟩
  rw [← hW2]
  replace HB : Hid (Below W.heap.size W W2) := by rw [hW2]; exact ybelow_drewN HB.out nq
  replace HN : Nms base W2 p b A cp n vs xs := by rw [hW2]; exact ⟨HN.blk, HN.hp, HN.hb, HN.own, HN.map, HN.len, HN.nil⟩
  replace HA : At W2 W.heap.size a.c := by rw [hW2]; exact ⟨HA.lt, HA.all⟩
  clear hW2 hlook a0 a1 a2 a3 a4 a5 a6 a7 n0 n1
  obtain ⟨a0, a1, a2, a3, a4, a5, a6, a7⟩ := HA.v8
  have n0 := HN.c0
  have n1 := HN.c1
  have hd : MapIs W2.drew b vs := HN.map
  obtain ⟨W3, hrun, hmap, hgrow⟩ := hd.put ha HM.out (by rw [HN.len]; exact hn)
  rw [HN.len] at hrun
  go_still_tail 10, (by kernel_rfl)
  have e1 : W3.heap[p]? = W2.heap[p]? := hgrow.block p HN.lt (fun e => HN.ne_pb (Option.some.inj e))
  have o3 : W3.ownsRow base 9 1 (.slice A n cp) n (xs.map Value.string) := World.ownsRow.kept (w := W2.drew) HN.own hgrow HN.row_ne
  have k3 : KeepT base W W3 := (KeepT.of HB HBS.out).trans ⟨((Below.refl _ W2).drew).grown hgrow (Nat.le_trans HBS.out HB.out.size) (fun k e => by cases e; exact HN.hb), fun g cs t fr h1 _ _ => (hgrow.block g (Array.getElem?_eq_some_iff.1 h1).1 (fun e => HN.map.not_cells (Option.some.inj e ▸ h1))).trans h1⟩
  have HS3 : Hid (base ≤ W3.heap.size) := Nat.le_trans HBS.out k3.bel.size
  have B3 := vhide (e1.trans HN.blk)
  have m0 : W3.cell? ⟨p, 0, none⟩ = some (.slice A n cp) := by simp [World.cell?, B3.out]
  have mf0 : W3.frozen? ⟨p, 0, none⟩ = false := by simp [World.frozen?, B3.out]
  have mlt : p < W3.heap.size := (Array.getElem?_eq_some_iff.1 B3.out).1
  have HP := vhide HN.hp
  have HBB := vhide HN.hb
  have HL := vhide HN.len
  have HRN := vhide HN.row_ne_p
  have HRB := vhide HN.row_ne
  have HNE := vhide HN.ne_pb
  have HMP := vhide hmap
  have HO := vhide o3
  have HK := vhide k3
  obtain ⟨i0, hi, hz0, hz1, hz2⟩ := info_parts vinfoStr
  have J0 := vhide hi; have Y0 := vhide hz0; have Y1 := vhide hz1; have Y2 := vhide hz2
  clear hi hz0 hz1 hz2 e1 o3 k3 hmap hgrow HB HN HA a0 a1 a2 a3 a4 a5 a6 a7 n0 n1 hd hl HM HBS ha
  go_wp2_with (first
    | (at_builtin; (refine wpList_append_own _ rfl _ _ 35 rfl base 9 i0 (.string ByteArray.empty) 1 16 Tryd.underlying35 J0.out Y0.out Y1.out Y2.out rfl (by decide) _ _ _ rfl (HO.out.alloc _) ⟨W3.heap.size, 0, none⟩ 1 1 [.string s] rfl rfl (cell_one_new _ _ _) ?q1 ?q2 ?q3 ?q4 ?_))
    | fail)
  case q1 => intro z hz; rw [List.mem_singleton.1 hz]; rfl
  case q2 => unfold maxLen; omega
  case q3 => omega
  case q4 => exact Nat.le_trans HS3.out (Nat.le_of_lt (heap_lt W3 _))
  intro v1 w4 ho1 hg1 hn1
  clear hn1
  obtain ⟨g1, cap1, rfl⟩ := vown_form ho1
  have B4 := vhide (((hg1.block p (Nat.lt_trans mlt (heap_lt W3 _)) (fun e => HRN.out e.symm)).trans (Below.heap_alloc W3 _ p mlt)).trans B3.out)
  have m4 : w4.cell? ⟨p, 0, none⟩ = some (.slice A n cp) := by simp [World.cell?, B4.out]
  have mf4 : w4.frozen? ⟨p, 0, none⟩ = false := by simp [World.frozen?, B4.out]
  have HO4 := vhide ho1
  have HG4 := vhide hg1
  clear ho1 hg1
  go_wp2
  go_ret
  have B5 : (w4.setCell ⟨p, 0, none⟩ (.slice (some ⟨g1, 0, none⟩) (n + 1) cap1)).heap[p]? = some (.cells #[.slice (some ⟨g1, 0, none⟩) (n + 1) cap1, .map (some b)] 55 (0, 0)) := by
    have h1 := B4.out
    simp [World.setCell, Array.getElem?_modify, h1]
  refine ⟨rfl, some ⟨g1, 0, none⟩, cap1, ⟨B5, HP.out, HBB.out, ?_, ?_, by rw [List.length_append, HL.out]; rfl, fun h0 => absurd h0 (by omega)⟩, HK.out.trans ⟨?_, ?_⟩⟩
  · rw [List.map_append]
    exact HO4.out.kept (grownBy_setCell _ _ _ _) (.inr (own_ne_cells HO4.out B4.out (by decide)))
  · refine HMP.out.keep ((Below.heap_setCell _ _ _ _ (fun e => HNE.out e.symm)).trans ((HG4.out.block b (Nat.lt_trans HMP.out.lt (heap_lt W3 _)) ?_).trans (Below.heap_alloc W3 _ b HMP.out.lt)))
    intro e
    rcases HRB.out with h | h
    · rw [h] at e; cases e
    · exact h e.symm
  · exact (((Below.refl _ W3).alloc HS3.out _).grown HG4.out (Nat.le_trans HS3.out (Nat.le_of_lt (heap_lt W3 _))) (fun k e => (HO.out.lt k e).1)).setCell HP.out _
  · intro g cs t fr h1 h2 h3
    have l1 := (Array.getElem?_eq_some_iff.1 h1).1
    have e1 : w4.heap[g]? = some (.cells cs t fr) := ((HG4.out.block g (Nat.lt_trans l1 (heap_lt W3 _)) (fun e => own_ne_cells HO.out h1 h2 e.symm)).trans (Below.heap_alloc W3 _ g l1)).trans h1
    refine (Below.heap_setCell _ _ _ _ (fun e => ?_)).trans e1
    have h4 := B4.out
    rw [show p = g from e.symm, e1] at h4
    injection h4 with h4
    injection h4 with _ h5
    exact h3 h5
def RetSB (W : World) (s : ByteArray) (b : Bool) (e : Ending) (w' : World) : Prop := e = .returned (.tuple #[.string s, .bool b]) ∧ Hid (Below W.heap.size W w')
theorem get_no {base p b cp n : Nat} {A : Option Addr} {vs : List V8} {xs : List ByteArray} {W : World} {a : V8} (h : Nms base W p b A cp n vs xs) (ha : a.wf) (hm : ¬ a ∈ vs) :
    Calls Tryd.prog 13 #[.pointer (some ⟨p, 0, none⟩), a.v] W (RetSB W ⟨#[]⟩ false) := by
  have hl := h.lt
  obtain ⟨W1, hW1⟩ : ∃ X, X = W.alloc (.cells a.c.toArray 24) := ⟨_, rfl⟩
  have HA : At W1 W.heap.size a.c := by rw [hW1]; exact at_new0 W a.c _
  have HN : Nms base W1 p b A cp n vs xs := by rw [hW1]; exact h.al _
  have HB : Hid (Below W.heap.size W W1) := by rw [hW1]; exact (Below.refl _ _).alloc (Nat.le_refl _) _
  obtain ⟨c, hlook, hc⟩ := HN.map.look ha
  rw [decide_eq_false hm] at hlook
  have n1 := HN.c1
  clear hc ha hm h
  have HW1 := vhide hW1
  clear hW1
  go_enter Tryd.func13, Tryd.ntmps13
  go_wp2
  rw [← HW1.out]
  clear HW1
  obtain ⟨a0, a1, a2, a3, a4, a5, a6, a7⟩ := HA.v8
  go_quiet (fail)
  go_wp2
  go_ret2
  exact ⟨rfl, ybelow_drewN HB.out nq⟩
theorem get_yes {base p b cp n : Nat} {A : Option Addr} {vs : List V8} {xs : List ByteArray} {W : World} {a : V8} {k : Nat} {s : ByteArray} (h : Nms base W p b A cp n vs xs) (hn : n ≤ 1000000) (ha : a.wf) (hk : vs[k]? = some a) (hs : xs[k]? = some s) :
    Calls Tryd.prog 13 #[.pointer (some ⟨p, 0, none⟩), a.v] W (RetSB W s true) := by
  have hm : a ∈ vs := List.mem_of_getElem? hk
  have hl := h.lt
  obtain ⟨W1, hW1⟩ : ∃ X, X = W.alloc (.cells a.c.toArray 24) := ⟨_, rfl⟩
  have HA : At W1 W.heap.size a.c := by rw [hW1]; exact at_new0 W a.c _
  have HN : Nms base W1 p b A cp n vs xs := by rw [hW1]; exact h.al _
  have HB : Hid (Below W.heap.size W W1) := by rw [hW1]; exact (Below.refl _ _).alloc (Nat.le_refl _) _
  obtain ⟨c, hlook, hc⟩ := HN.map.look ha
  rw [decide_eq_true hm] at hlook
  have n1 := HN.c1
  obtain rfl : c = k := hc k hk
  have hkn : k < n := by
    have h1 := (List.getElem?_eq_some_iff.1 hk).1
    rw [h.len] at h1; exact h1
  have n0 := HN.c0
  obtain ⟨g, hA, hg⟩ : ∃ g, A = some ⟨g, 0, none⟩ ∧ W1.cell? ⟨g, k, none⟩ = some (.string s) := by
    rcases HN.own.2 with ⟨h1, h2⟩ | ⟨g, cap, cur, h1, _⟩
    · omega
    · injection h1 with h1 _ _
      refine ⟨g, h1, ?_⟩
      have h4 := HN.own.cells (g := g) (by rw [h1]; rfl) k (.string s) (by rw [List.getElem?_map, hs]; rfl)
      rwa [show (⟨g, 0, none⟩ : Addr).add k = ⟨g, k, none⟩ by unfold Addr.add; split <;> simp_all] at h4
  subst hA
  clear hc ha hm h hk hs
  have HW1 := vhide hW1
  clear hW1
  go_enter Tryd.func13, Tryd.ntmps13
  go_wp2
  rw [← HW1.out]
  clear HW1
  obtain ⟨a0, a1, a2, a3, a4, a5, a6, a7⟩ := HA.v8
  go_quiet (fail)
  go_wp2
  go_ret2
  exact ⟨rfl, ybelow_drewN HB.out nq⟩
end Go.Proofs.YtibigdblapgmdaaDoor
