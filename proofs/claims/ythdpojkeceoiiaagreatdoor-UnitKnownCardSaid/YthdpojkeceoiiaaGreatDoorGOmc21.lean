/- Several texts in one, each with its own sentence and conditions. -/
import Derived.Test.YthdpojkeceoiiaaGreatDoorGOmc20
import Derived.Test.YthdpojkeceoiiaaGreatDoorGOmc1
import Derived.Deep.OwnRows
import Derived.BigRegion
import Derived.Deep.AppendLies
import Derived.Deep.RegionLaw
import Derived.Deep.RegionHeld3
import Derived.Test.YthdpojkeceoiiaaGreatDoorGOmc2
section
/- Words: Cut. Conditions: a row of at most 1000000 texts. -/
open Go.RowKit
set_option maxRecDepth 100000
namespace Go.Proofs.YthdpojkeceoiiaaGreatDoor
theorem Tryz.infoStr : (Tryz.prog.info? 9).map (fun i => (i.zero, i.size, i.bytes)) = some (some (.string ByteArray.empty), 1, 16) := by kernel_rfl
theorem Tryz.infoStrs : (Tryz.prog.info? 23).map (fun i => (i.zero, i.size, i.bytes)) = some (some (.slice none 0 0), 1, 24) := by kernel_rfl
/-- What a call leaves that returns lists of strings. -/
def ListsR (W : World) (css : List (List ByteArray)) (e : Ending) (w' : World) : Prop := ∃ ad c, e = .returned (.slice (some ad) css.length c) ∧ Sss w' (some ad) css ∧ Hid (Below W.heap.size W w')
def BldT (w : World) (wr : World) (v : Value) (css : List (List ByteArray)) (vs : List Value) : Prop := Bld w.heap.size 23 9 wr v css vs
theorem str_neY {x y : ByteArray} (h : x ≠ y) : (x.toList == y.toList) = false := by
  rw [beq_eq_false_iff_ne]
  intro e
  rw [Lib.toList_data, Lib.toList_data] at e
  exact h (ByteArray.ext (Array.ext' e))
theorem cut_len {x : ByteArray} {xs : List ByteArray} (k : Nat) : (cutBy x (xs.take k)).length ≤ k + 1 := by
  have h1 := cutBy_le (a := x) (xs.take k)
  have h2 : (xs.take k).length ≤ k := List.length_take_le _ _
  omega
/-- Each slice of the row holds no more than it has room for. -/
def Caps (w : World) (ad : Addr) (css : List (List ByteArray)) : Prop := ∀ (j : Nat) (A : Option Addr) (n c : Nat), j < css.length → w.cell? (ad.add j) = some (.slice A n c) → n ≤ c
theorem Caps.up {W W' : World} {ad : Addr} {css : List (List ByteArray)} (h : Caps W ad css) (hb : Hid (Below W.heap.size W W')) (hl : ad.block < W.heap.size) : Caps W' ad css := fun j A n c hj hc =>
  h j A n c hj ((hb.out.cell (by rw [yblock_add]; exact hl)).symm.trans hc)
theorem Bld.caps {base : Nat} {tO ti : TypeId} {w : World} {g cap : Nat} {css : List (List ByteArray)} {vs : List Value} (h : Bld base tO ti w (.slice (some ⟨g, 0, none⟩) css.length cap) css vs) : Caps w ⟨g, 0, none⟩ css := fun j A n c hj hc => by
  have hl := h.len
  have hx := List.getElem?_eq_getElem (show j < vs.length by omega)
  have hc2 := h.own.cells (g := g) rfl j _ hx
  have ho := h.inner j _ _ hx (List.getElem?_eq_getElem hj)
  rw [hc] at hc2
  injection hc2 with hc2
  rw [← hc2] at ho
  rcases ho.2 with ⟨h0, _⟩ | ⟨g', cap', cur, h0, _, _, h3, _⟩
  · injection h0 with _ h1 h2; omega
  · injection h0 with _ h1 h2; omega
def ListsC (W : World) (css : List (List ByteArray)) (e : Ending) (w' : World) : Prop := ∃ ad c, e = .returned (.slice (some ad) css.length c) ∧ Sss w' (some ad) css ∧ Caps w' ad css ∧ Hid (Below W.heap.size W w')
set_option maxHeartbeats 2000000 in
theorem wcut_any {A : Option Addr} {n c : Nat} {xs : List ByteArray} {t : ByteArray} {w : World} (h : Ss w A xs) (hn : n = xs.length) (hl : n ≤ 1000000) :
    Calls Tryz.prog 24 #[.slice A n c, .string t] w (ListsC w (cutBy t xs)) := by
  have HN := yhide hn
  clear hn
  have hmk := run_make_row' (P := Tryz.prog) 63 23 (.slice none 0 0) 24 Tryz.underlying63 Tryz.infoStrs rfl .i64 .i64 1 (by decide) (by decide)
  have hmk1 : ∀ W : World, (Instr.makeSlice 63 (.int .i64 1) (.int .i64 1)).run Tryz.prog W = .ok (.slice (some ⟨W.heap.size, 0, none⟩) 1 1) (W.alloc (.cells #[.slice none 0 0] 23)) := fun W => by
    have h1 := hmk W
    rw [show madeCells #[Value.slice none 0 0] 1 = #[Value.slice none 0 0] by kernel_rfl] at h1
    exact h1
  clear hmk
  obtain ⟨i0, hi0, hz0, hz1, hz2⟩ := info_parts Tryz.infoStrs
  have I0 := yhide hi0; have Z0 := yhide hz0; have Z1 := yhide hz1; have Z2 := yhide hz2
  clear hi0 hz0 hz1 hz2
  obtain ⟨j0, hj0, hy0, hy1, hy2⟩ := info_parts Tryz.infoStr
  have J0 := yhide hj0; have Y0 := yhide hy0; have Y1 := yhide hy1; have Y2 := yhide hy2
  clear hj0 hy0 hy1 hy2
  go_enter Tryz.func24, Tryz.ntmps24
  go_wp2
  clear hmk1
  go_loopw [5, 12] (fun lv iv wr => ∃ (k m g cap : Nat) (css : List (List ByteArray)) (vs : List Value), k ≤ n ∧ m ≤ k ∧ iv = .int .i64 (k : Int) ∧ lv = .slice (some ⟨g, 0, none⟩) (m + 1) cap ∧ Hid (css.length = m + 1) ∧ Hid (css = cutBy t (xs.take k)) ∧
      Hid (BldT w wr (.slice (some ⟨g, 0, none⟩) css.length cap) css vs) ∧ Hid (Below w.heap.size w wr)) (fun _ iv _ => n - (intOf iv).toNat)
  case atStart => exact ⟨0, 0, w.heap.size, 1, [[]], [.slice none 0 0], Nat.zero_le _, Nat.le_refl _, rfl, rfl, rfl, rfl, Bld.start (Nat.le_refl _), (Below.refl _ _).alloc (Nat.le_refl _) _⟩
  case round =>
    obtain ⟨k, m, g, cap, css, vs, hk, hmk, rfl, rfl, hcl, hcs, hbld, hbk⟩ := hrel
    by_cases hlt : k < n
    · have hx : k < xs.length := by rw [← HN.out]; exact hlt
      obtain ⟨ad, rfl, hb, hcell⟩ := h.out.at_ hx
      obtain ⟨x, hxe⟩ : ∃ x, x = xs[k] := ⟨_, rfl⟩
      have HX : Hid (xs[k]? = some x) := by rw [hxe]; exact List.getElem?_eq_getElem hx
      rw [← hxe] at hcell
      replace hcell : wr.cell? (ad.add k) = some (.string x) := (hbk.out.cell (by rw [yblock_add]; exact hb)).trans hcell
      have HBW := yhide hbk.out.size
      clear hxe hx
      by_cases he : x = t
      · subst he
        have HOW : Hid (wr.ownsRow w.heap.size 23 1 (.slice (some ⟨g, 0, none⟩) (m + 1) cap) (m + 1) vs) := by have := hbld.out.own; rw [hcl.out] at this; exact this
        go_wp2_with (first | (at_builtin; go_must (refine wpList_append_own_at _ rfl (.tmp 19) (.tmp 20) 63 rfl w.heap.size 23 i0 (.slice none 0 0) 1 24 Tryz.underlying63 I0.out Z0.out Z1.out Z2.out rfl (by decide) (.slice (some ⟨g, 0, none⟩) (m + 1) cap) _ _ rfl (HOW.out.alloc _) ⟨wr.heap.size, 0, none⟩ 1 1 [.slice none 0 0] rfl rfl (cell_one_new _ _ _) (by intro u hu; simp at hu; subst hu; rfl) (by simp only [maxLen]; omega) (by omega) (Nat.le_trans HBW.out (by simp)) ?_); intro v1 w1 ho1 hg1 hn1 ha1; clear hn1 ha1) | fail)
        have hB2 : Bld w.heap.size 23 9 w1 v1 (css ++ [[]]) (vs ++ [.slice none 0 0]) := Bld.more (Bld.alloc hbld.out _) (by decide) (by rw [hcl.out]; exact ho1) (by rw [hcl.out]; exact hg1)
        obtain ⟨g1, cap1, hv1⟩ := hB2.form (by simp)
        have hv2 : v1 = .slice (some ⟨g1, 0, none⟩) (m + 1 + 1) cap1 := by rw [hv1]; simp [hcl.out]
        have HB2 := yhide hB2
        have HB3 : Hid (Below w.heap.size w w1) := (hbk.out.alloc HBW.out _).grown hg1 (Nat.le_trans HBW.out (by simp)) (fun g' e => (hbld.out.own.lt g' (by rw [hcl.out]; exact e)).1)
        clear hv1 hB2 hg1 ho1
        subst hv2
        go_roundw
        case rel =>
          refine ⟨k + 1, m + 1, g1, cap1, css ++ [[]], vs ++ [.slice none 0 0], by omega, by omega, by go_num, rfl, by unfold Hid; simp [hcl.out], ?_, ?_, HB3⟩
          · unfold Hid
            rw [cut_step HX.out, ← hcs.out]
            unfold cutMore
            rw [if_pos rfl]
          · have := HB2.out
            unfold Hid BldT
            rw [List.length_append, hcl.out]
            exact this
        case measure => simp [intOf]; omega
      · have hne := str_neY he
        have HE := yhide he
        have hm1 : m < css.length := by rw [hcl.out]; omega
        have hm2 : m < vs.length := by rw [Bld.len hbld.out]; exact hm1
        obtain ⟨y, hye⟩ : ∃ y, y = vs[m] := ⟨_, rfl⟩
        obtain ⟨cs, hce⟩ : ∃ cs, cs = css[m] := ⟨_, rfl⟩
        have HY : Hid (vs[m]? = some y) := by rw [hye]; exact List.getElem?_eq_getElem hm2
        have HC : Hid (css[m]? = some cs) := by rw [hce]; exact List.getElem?_eq_getElem hm1
        have hcsl : cs.length ≤ 1000000 := by
          have h1 : cs ∈ cutBy t (xs.take k) := by rw [← hcs.out, hce]; exact List.getElem_mem hm1
          have h2 := cutBy_piece h1
          have h3 : (xs.take k).length ≤ k := List.length_take_le _ _
          omega
        have hcy : wr.cell? ⟨g, m, none⟩ = some y := Bld.cell hbld.out HY.out
        have HOW : Hid (wr.ownsRow w.heap.size 23 1 (.slice (some ⟨g, 0, none⟩) (m + 1) cap) (m + 1) vs) := by have := hbld.out.own; rw [hcl.out] at this; exact this
        have HOY : Hid (wr.ownsRow w.heap.size 9 1 y cs.length (cs.map Value.string)) := hbld.out.inner m y cs HY.out HC.out
        clear he hye hce hm1 hm2
        go_wp2_with (first | (at_builtin; go_must (refine wpList_append_own_at _ rfl (.tmp 30) (.tmp 32) 23 rfl w.heap.size 9 j0 (.string ByteArray.empty) 1 16 Tryz.underlying23 J0.out Y0.out Y1.out Y2.out rfl (by decide) y _ _ rfl (HOY.out.alloc _) ⟨wr.heap.size, 0, none⟩ 1 1 [.string x] rfl rfl (cell_one_new _ _ _) (by intro u hu; simp at hu; subst hu; rfl) (by simp only [maxLen]; omega) (by omega) (Nat.le_trans HBW.out (by simp)) ?_; intro v1 w1 ho1 hg1 hn1 ha1; clear hn1; obtain ⟨⟨g1, cap1, rfl⟩, hc2, hf2⟩ := arm_facts HOW HOY (by decide) HY ho1 hg1; have HO1 := yhide ho1; have HG1 := yhide hg1; have HA1 := yhide ha1; clear ho1 hg1 ha1)))
        go_roundw
        case rel =>
          have hB2 := Bld.put hbld.out (by decide) HY.out HC.out (x := x) HO1.out HG1.out HA1.out
          refine ⟨k + 1, m, g, cap, css.set m (cs ++ [x]), vs.set m (.slice (some ⟨g1, 0, none⟩) (cs.length + 1) cap1), by omega, by omega, by go_num, rfl, by unfold Hid; rw [List.length_set]; exact hcl.out, ?_, ?_, ?_⟩
          · unfold Hid
            rw [cut_step HX.out, ← hcs.out]
            exact set_last HE.out hcl.out HC.out
          · unfold Hid BldT
            rw [List.length_set]
            exact hB2
          · exact (((hbk.out.alloc HBW.out _).grown HG1.out (Nat.le_trans HBW.out (by simp)) (fun g' e => (HOY.out.lt g' e).1)).setCell (p := ⟨g, m, none⟩) (hbld.out.own.lt g rfl).1 _)
        case measure => simp [intOf]; omega
    · obtain rfl : k = n := by omega
      have HR : Hid (ListsC w (cutBy t xs) (.returned (.slice (some ⟨g, 0, none⟩) (m + 1) cap)) wr) := by
        have e : cutBy t xs = css := by
          rw [hcs.out, List.take_of_length_le (by rw [← HN.out]; exact Nat.le_refl _)]
        rw [e]
        exact ⟨⟨g, 0, none⟩, cap, by rw [hcl.out], Bld.rss hbld.out, Bld.caps hbld.out, hbk⟩
      go_wp2
      go_ret
      exact HR.out
end Go.Proofs.YthdpojkeceoiiaaGreatDoor
end

section
/- The document's own Cut. Conditions: a row of at most 1000000 texts. -/
open Go.RowKit
set_option maxRecDepth 100000
namespace Go.Proofs.YthdpojkeceoiiaaGreatDoor
/-- A part without an element is nil. -/
def NilE (css : List (List ByteArray)) (vs : List Value) : Prop := ∀ (j : Nat) x, vs[j]? = some x → css[j]? = some [] → x = .slice none 0 0
theorem NilE.set {css : List (List ByteArray)} {vs : List Value} (h : NilE css vs) (m : Nat) (cs : List ByteArray) (x : ByteArray) (v : Value) : NilE (css.set m (cs ++ [x])) (vs.set m v) := fun j y h1 h2 => by
  by_cases hj : m = j
  · subst hj
    rw [List.getElem?_set] at h2
    simp at h2
  · rw [List.getElem?_set_ne hj] at h1 h2
    exact h j y h1 h2
theorem NilE.more {css : List (List ByteArray)} {vs : List Value} (h : NilE css vs) (hl : vs.length = css.length) : NilE (css ++ [[]]) (vs ++ [.slice none 0 0]) := fun j y h1 h2 => by
  rcases Nat.lt_or_ge j vs.length with hj | hj
  · rw [List.getElem?_append_left hj] at h1
    rw [List.getElem?_append_left (by omega)] at h2
    exact h j y h1 h2
  · rw [List.getElem?_append_right hj] at h1
    cases hk : j - vs.length with
    | zero => rw [hk] at h1; simp at h1; exact h1.symm
    | succ k => rw [hk] at h1; simp at h1
theorem own_e0 (W : World) (base : Nat) (t : TypeId) (hb : base ≤ W.heap.size) : (W.alloc (.cells #[] t)).ownsRow base t 1 (.slice (some ⟨W.heap.size, 0, none⟩) 0 0) 0 [] := World.ownsRow_lit W _ 0 hb (by decide) rfl
theorem own_ea (W : World) (base : Nat) (t : TypeId) (hb : base ≤ W.heap.size) (o : Obj) : ((W.alloc (.cells #[] t)).alloc o).ownsRow base t 1 (.slice (some ⟨W.heap.size, 0, none⟩) 0 0) 0 [] := (own_e0 W base t hb).alloc o
theorem own_eb (W : World) (base : Nat) (t : TypeId) (hb : base ≤ W.heap.size) (o : Obj) : ((W.alloc o).alloc (.cells #[] t)).ownsRow base t 1 (.slice (some ⟨W.heap.size + 1, 0, none⟩) 0 0) 0 [] := by
  have h := own_e0 (W.alloc o) base t (by simp; omega)
  rwa [show (W.alloc o).heap.size = W.heap.size + 1 by simp] at h
theorem new_xa (W : World) (o : Obj) (x : Value) (t : TypeId) : ∀ j u, [x][j]? = some u → ((W.alloc o).alloc (.cells #[x] t)).cell? ((⟨W.heap.size + 1, 0, none⟩ : Addr).add j) = some u := by
  have h := cell_one_new (W.alloc o) x t
  rwa [show (W.alloc o).heap.size = W.heap.size + 1 by simp] at h
theorem new_xb (W : World) (o : Obj) (x : Value) (t : TypeId) : ∀ j u, [x][j]? = some u → ((W.alloc (.cells #[x] t)).alloc o).cell? ((⟨W.heap.size, 0, none⟩ : Addr).add j) = some u := fun j u hu =>
  (World.cell?_alloc_lt (W.alloc (.cells #[x] t)) o _ (by rw [yblock_add]; simp)).trans (cell_one_new W x t j u hu)
/-- A world that parts from another in draws alone. -/
theorem below_like {B : Nat} {a w w' : World} (h : Below B a w) (h1 : w'.os = w.os) (h2 : w'.tape = w.tape) (h3 : w'.output = w.output) (h4 : w'.heap = w.heap) : Below B a w' :=
  ⟨h1.trans h.os, h2.trans h.tape, h3.trans h.output, by rw [h4]; exact h.size, fun k hk => by rw [h4]; exact h.block k hk⟩
theorem below_two (W : World) (o o' : Obj) : Below W.heap.size W ((W.alloc o).alloc o') := ((Below.refl _ _).alloc (Nat.le_refl _) o).alloc (by simp) o'
theorem below_one (W : World) (o : Obj) : Below W.heap.size W (W.alloc o) := (Below.refl _ _).alloc (Nat.le_refl _) o
theorem base_one {base : Nat} {wr Wc : World} {o1 : Obj} (hb : base ≤ wr.heap.size) (h4 : Wc.heap = (wr.alloc o1).heap) : base ≤ Wc.heap.size := by rw [h4]; simp; omega
theorem base_two {base : Nat} {wr Wc : World} {o1 o2 : Obj} (hb : base ≤ wr.heap.size) (h4 : Wc.heap = ((wr.alloc o1).alloc o2).heap) : base ≤ Wc.heap.size := by rw [h4]; simp; omega
theorem base_at {base : Nat} {wr w2 Wc : World} (hb : base ≤ wr.heap.size) (hbl : Below wr.heap.size wr w2) (h4 : Wc.heap = w2.heap) : base ≤ Wc.heap.size := by rw [h4]; have := hbl.size; omega
theorem base_on {base : Nat} {wr w2 Wc : World} {o : Obj} (hb : base ≤ wr.heap.size) (hbl : Below wr.heap.size wr w2) (h4 : Wc.heap = (w2.alloc o).heap) : base ≤ Wc.heap.size := by rw [h4]; have := hbl.size; simp; omega
/-- What a growing append onto a slice at p leaves, where p is a new block. -/
theorem grow_any {wr Wc w2 : World} {p n c : Nat} (hbl : Below wr.heap.size wr Wc) (hp : wr.heap.size ≤ p) (hg : Wc.grownBy w2 (Value.slice (some ⟨p, 0, none⟩) n c).ownBlock) : Below wr.heap.size wr w2 :=
  hbl.grown hg hbl.size (fun k e => by simp [Value.ownBlock] at e; omega)
theorem grow_anyat {wr Wc : World} {p n c g2 : Nat} (hbl : wr.heap.size ≤ Wc.heap.size) (hp : wr.heap.size ≤ p) (hat : (Value.slice (some ⟨p, 0, none⟩) n c).ownBlock = some g2 ∨ g2 = Wc.heap.size) : wr.heap.size ≤ g2 := by
  rcases hat with e | e
  · simp [Value.ownBlock] at e
    omega
  · omega
theorem grow_new1 {wr Wc w2 : World} {o1 : Obj} {p n c : Nat} (hp : wr.heap.size ≤ p) (hg : Wc.grownBy w2 (Value.slice (some ⟨p, 0, none⟩) n c).ownBlock) (h1 : Wc.os = wr.os) (h2 : Wc.tape = wr.tape) (h3 : Wc.output = wr.output) (h4 : Wc.heap = (wr.alloc o1).heap) : Below wr.heap.size wr w2 :=
  grow_any (below_like (below_one wr o1) h1 h2 h3 h4) hp hg
theorem grow_new2 {wr Wc w2 : World} {o1 o2 : Obj} {p n c : Nat} (hp : wr.heap.size ≤ p) (hg : Wc.grownBy w2 (Value.slice (some ⟨p, 0, none⟩) n c).ownBlock) (h1 : Wc.os = wr.os) (h2 : Wc.tape = wr.tape) (h3 : Wc.output = wr.output) (h4 : Wc.heap = ((wr.alloc o1).alloc o2).heap) : Below wr.heap.size wr w2 :=
  grow_any (below_like (below_two wr o1 o2) h1 h2 h3 h4) hp hg
theorem grow_at1 {wr Wc : World} {o1 : Obj} {p n c g2 : Nat} (hp : wr.heap.size ≤ p) (hat : (Value.slice (some ⟨p, 0, none⟩) n c).ownBlock = some g2 ∨ g2 = Wc.heap.size) (h4 : Wc.heap = (wr.alloc o1).heap) : wr.heap.size ≤ g2 :=
  grow_anyat (by rw [h4]; simp) hp hat
theorem grow_at2 {wr Wc : World} {o1 o2 : Obj} {p n c g2 : Nat} (hp : wr.heap.size ≤ p) (hat : (Value.slice (some ⟨p, 0, none⟩) n c).ownBlock = some g2 ∨ g2 = Wc.heap.size) (h4 : Wc.heap = ((wr.alloc o1).alloc o2).heap) : wr.heap.size ≤ g2 :=
  grow_anyat (by rw [h4]; simp; omega) hp hat
theorem grow_up {wr Wc w2 w4 : World} {p n c : Nat} (hbl : Below wr.heap.size wr w2) (hp : wr.heap.size ≤ p) (hg : Wc.grownBy w4 (Value.slice (some ⟨p, 0, none⟩) n c).ownBlock) (h1 : Wc.os = w2.os) (h2 : Wc.tape = w2.tape) (h3 : Wc.output = w2.output) (h4 : Wc.heap = w2.heap) : Below wr.heap.size wr w4 :=
  grow_any (below_like hbl h1 h2 h3 h4) hp hg
theorem grow_upat {wr Wc w2 : World} {p n c g2 : Nat} (hbl : Below wr.heap.size wr w2) (hp : wr.heap.size ≤ p) (hat : (Value.slice (some ⟨p, 0, none⟩) n c).ownBlock = some g2 ∨ g2 = Wc.heap.size) (h4 : Wc.heap = w2.heap) : wr.heap.size ≤ g2 :=
  grow_anyat (by rw [h4]; exact hbl.size) hp hat
theorem grow_on {wr Wc w2 w4 : World} {o : Obj} {p n c : Nat} (hbl : Below wr.heap.size wr w2) (hp : wr.heap.size ≤ p) (hg : Wc.grownBy w4 (Value.slice (some ⟨p, 0, none⟩) n c).ownBlock) (h1 : Wc.os = w2.os) (h2 : Wc.tape = w2.tape) (h3 : Wc.output = w2.output) (h4 : Wc.heap = (w2.alloc o).heap) : Below wr.heap.size wr w4 :=
  grow_any (below_like (hbl.alloc hbl.size o) h1 h2 h3 h4) hp hg
theorem grow_onat {wr Wc w2 : World} {o : Obj} {p n c g2 : Nat} (hbl : Below wr.heap.size wr w2) (hp : wr.heap.size ≤ p) (hat : (Value.slice (some ⟨p, 0, none⟩) n c).ownBlock = some g2 ∨ g2 = Wc.heap.size) (h4 : Wc.heap = (w2.alloc o).heap) : wr.heap.size ≤ g2 :=
  grow_anyat (by rw [h4]; have := hbl.size; simp; omega) hp hat
theorem old_news {wr Wc : World} {gy : Nat} {news : List Value} (h : ∀ j u, news[j]? = some u → wr.cell? ((⟨gy, 0, none⟩ : Addr).add j) = some u ∧ gy < wr.heap.size) (hbl : Below wr.heap.size wr Wc) : ∀ j u, news[j]? = some u → Wc.cell? ((⟨gy, 0, none⟩ : Addr).add j) = some u := fun j u hu =>
  (hbl.cell (by rw [yblock_add]; exact (h j u hu).2)).trans (h j u hu).1
theorem all_one (l : List ByteArray) : ∀ u ∈ l.map Value.string, u.oneCell' = true := fun u hu => by
  obtain ⟨s, _, rfl⟩ := List.mem_map.1 hu; rfl
theorem one_one (x : ByteArray) : ∀ u ∈ [Value.string x], u.oneCell' = true := fun u hu => by simp at hu; subst hu; rfl
theorem xn_far {Wc w2 : World} {row : Option Nat} {p : Nat} {x : Value} (hg : Wc.grownBy w2 row) (h : ∀ j u, [x][j]? = some u → Wc.cell? ((⟨p, 0, none⟩ : Addr).add j) = some u) (hp : p < Wc.heap.size) (hne : some p ≠ row) : ∀ j u, [x][j]? = some u → w2.cell? ((⟨p, 0, none⟩ : Addr).add j) = some u := fun j u hu =>
  (World.cell?_of_block (hg.block _ (by rw [yblock_add]; exact hp) (by rw [yblock_add]; exact hne))).trans (h j u hu)
section
variable {base : Nat} {tO ti : TypeId} {w w' : World} {css : List (List ByteArray)} {vs : List Value} {g cap : Nat}
/-- As put, where the last part's new slice lies in a block that was not there. -/
theorem Bld.put2 (h : Bld base tO ti w (.slice (some ⟨g, 0, none⟩) css.length cap) css vs) (hne : tO ≠ ti) {j : Nat} {y : Value} {cs : List ByteArray} (hy : vs[j]? = some y) (hcs : css[j]? = some cs)
    {v' : Value} {x : ByteArray} (ho : w'.ownsRow base ti 1 v' (cs.length + 1) (cs.map Value.string ++ [.string x])) (hb : Below w.heap.size w w')
    (hat : ∀ k, v'.ownBlock = some k → w.heap.size ≤ k) :
    Bld base tO ti (w'.setCell ⟨g, j, none⟩ v') (.slice (some ⟨g, 0, none⟩) css.length cap) (css.set j (cs ++ [x])) (vs.set j v') := by
  have hl := h.len
  have hg : w.grownBy w' none := ⟨hb.os, hb.tape, hb.output, hb.size, fun k hk _ => hb.block k hk⟩
  have nn : ∀ v : Value, v.ownBlock = none ∨ v.ownBlock ≠ none := fun v => by cases v.ownBlock <;> simp
  have houter : w'.ownsRow base tO 1 (.slice (some ⟨g, 0, none⟩) css.length cap) css.length vs := h.own.kept hg (nn _)
  have hst := World.ownsRow.stored houter j v'
  have hjv : j < vs.length := by
    rcases Nat.lt_or_ge j vs.length with h1 | h1
    · exact h1
    · rw [List.getElem?_eq_none h1] at hy; cases hy
  have keep : ∀ {z : Value} {n : Nat} {zs : List Value}, w'.ownsRow base ti 1 z n zs → (w'.setCell ⟨g, j, none⟩ v').ownsRow base ti 1 z n zs := fun {z n zs} hz =>
    hz.kept hst.2 (by rcases own_type_ne hz houter (Ne.symm hne) with e | e; (· exact .inl e); (· exact .inr e))
  have old : ∀ {i : Nat} {x' : Value}, vs[i]? = some x' → x'.ownBlock = none ∨ x'.ownBlock ≠ v'.ownBlock := fun {i x'} hx => by
    have hi : i < css.length := by
      rcases Nat.lt_or_ge i css.length with h3 | h3
      · exact h3
      · rw [List.getElem?_eq_none (by omega)] at hx; cases hx
    cases e : x'.ownBlock with
    | none => exact .inl rfl
    | some k =>
      right
      intro e2
      have h3 := (h.inner i x' _ hx (List.getElem?_eq_getElem hi)).lt k e
      have h4 := hat k e2.symm
      omega
  refine ⟨by rw [List.length_set]; exact hst.1, fun i x' cs' h1 h2 => ?_, fun i k x' y' h1 h2 hik => ?_⟩
  · by_cases hij : i = j
    · subst hij
      rw [List.getElem?_set_self hjv] at h1
      rw [List.getElem?_set_self (by omega)] at h2
      injection h1 with h1
      injection h2 with h2
      subst h1; subst h2
      have := keep ho
      rw [List.length_append, List.map_append]
      exact this
    · rw [List.getElem?_set_ne (Ne.symm hij)] at h1 h2
      exact keep ((h.inner i x' cs' h1 h2).kept hg (nn _))
  · by_cases hi : i = j
    · subst hi
      rw [List.getElem?_set_self hjv] at h1
      injection h1 with h1
      subst h1
      rw [List.getElem?_set_ne hik] at h2
      rcases old h2 with e | e
      · right
        rw [e]
        obtain ⟨g9, c9, e9⟩ := own_form ho (by omega)
        rw [e9]; simp [Value.ownBlock]
      · exact .inr (Ne.symm e)
    · rw [List.getElem?_set_ne (Ne.symm hi)] at h1
      by_cases hk : k = j
      · subst hk
        rw [List.getElem?_set_self hjv] at h2
        injection h2 with h2
        subst h2
        exact old h1
      · rw [List.getElem?_set_ne (Ne.symm hk)] at h2
        exact h.apart i k x' y' h1 h2 hik
end
theorem Bld.like {base : Nat} {tO ti : TypeId} {w w' : World} {v : Value} {css : List (List ByteArray)} {vs : List Value} (h : Bld base tO ti w v css vs) (he : w'.heap = w.heap) : Bld base tO ti w' v css vs := by
  have go : ∀ {e : TypeId} {v : Value} {n : Nat} {xs : List Value}, w.ownsRow base e 1 v n xs → w'.ownsRow base e 1 v n xs := fun {e v n xs} h1 => by
    refine ⟨h1.1, ?_⟩
    rw [he]; exact h1.2
  exact ⟨go h.own, fun j x cs h1 h2 => go (h.inner j x cs h1 h2), h.apart⟩
theorem rel_mk {n k m g cap : Nat} {lv iv : Value} {P : List (List ByteArray) → Prop} {R : List (List ByteArray) → List Value → Prop} {Q : Prop} {P3 : List (List ByteArray) → Prop} {R2 : List (List ByteArray) → List Value → Prop} (h1 : k ≤ n) (h2 : m ≤ k) (h3 : iv = .int .i64 (k : Int)) (h4 : lv = .slice (some ⟨g, 0, none⟩) (m + 1) cap)
    (h : ∃ css vs, P css ∧ P3 css ∧ R css vs ∧ R2 css vs ∧ Q) : ∃ css vs, k ≤ n ∧ m ≤ k ∧ iv = .int .i64 (k : Int) ∧ lv = .slice (some ⟨g, 0, none⟩) (m + 1) cap ∧ P css ∧ P3 css ∧ R css vs ∧ R2 css vs ∧ Q := by
  obtain ⟨css, vs, a, b, c, d, e⟩ := h
  exact ⟨css, vs, h1, h2, h3, h4, a, b, c, d, e⟩
theorem own_zero {w : World} {base : Nat} {e : TypeId} {A : Option Addr} {l c : Nat} {xs : List Value} (h : w.ownsRow base e 1 (.slice A (0 + l) c) (0 + l) ([] ++ xs)) : w.ownsRow base e 1 (.slice A l c) l xs := by
  simpa using h
set_option maxHeartbeats 4000000 in
theorem rcut_any {A : Option Addr} {n c : Nat} {xs : List ByteArray} {t : ByteArray} {w : World} (h : Ss w A xs) (hn : n = xs.length) (hl : n ≤ 1000000) :
    Calls Tryz.prog 42 #[.slice A n c, .string t] w (ListsC w (cutBy t xs)) := by
  have HN := yhide hn
  clear hn
  obtain ⟨i0, hi0, hz0, hz1, hz2⟩ := info_parts Tryz.infoStrs
  have I0 := yhide hi0; have Z0 := yhide hz0; have Z1 := yhide hz1; have Z2 := yhide hz2
  clear hi0 hz0 hz1 hz2
  obtain ⟨j0, hj0, hy0, hy1, hy2⟩ := info_parts Tryz.infoStr
  have J0 := yhide hj0; have Y0 := yhide hy0; have Y1 := yhide hy1; have Y2 := yhide hy2
  clear hj0 hy0 hy1 hy2
  go_enter Tryz.func42, Tryz.ntmps42
  go_wp2
  go_loopw [5, 6] (fun lv iv wr => ∃ (k m g cap : Nat) (css : List (List ByteArray)) (vs : List Value), k ≤ n ∧ m ≤ k ∧ iv = .int .i64 (k : Int) ∧ lv = .slice (some ⟨g, 0, none⟩) (m + 1) cap ∧ Hid (css.length = m + 1) ∧ Hid (css = cutBy t (xs.take k)) ∧
      Hid (BldT w wr (.slice (some ⟨g, 0, none⟩) css.length cap) css vs) ∧ Hid (NilE css vs) ∧ Hid (Below w.heap.size w wr)) (fun _ iv _ => n - (intOf iv).toNat)
  case atStart => exact ⟨0, 0, w.heap.size, 1, [[]], [.slice none 0 0], Nat.zero_le _, Nat.le_refl _, rfl, rfl, rfl, rfl, Bld.start (Nat.le_refl _), (fun j x h1 _ => by cases j with | zero => (simp at h1; exact h1.symm) | succ j => simp at h1), (Below.refl _ _).alloc (Nat.le_refl _) _⟩
  case round =>
    obtain ⟨k, m, g, cap, css, vs, hk, hmk, rfl, rfl, hcl, hcs, hbld, hnil, hbk⟩ := hrel
    by_cases hlt : k < n
    · have hx : k < xs.length := by rw [← HN.out]; exact hlt
      obtain ⟨ad, rfl, hb, hcell⟩ := h.out.at_ hx
      obtain ⟨x, hxe⟩ : ∃ x, x = xs[k] := ⟨_, rfl⟩
      have HX : Hid (xs[k]? = some x) := by rw [hxe]; exact List.getElem?_eq_getElem hx
      rw [← hxe] at hcell
      replace hcell : wr.cell? (ad.add k) = some (.string x) := (hbk.out.cell (by rw [yblock_add]; exact hb)).trans hcell
      have HBW := yhide hbk.out.size
      clear hxe hx
      by_cases he : x = t
      · subst he
        have HOW : Hid (wr.ownsRow w.heap.size 23 1 (.slice (some ⟨g, 0, none⟩) (m + 1) cap) (m + 1) vs) := by have := hbld.out.own; rw [hcl.out] at this; exact this
        go_wp2_with (first | (at_builtin; go_must (refine wpList_append_own_at _ rfl (.tmp 20) (.tmp 21) 63 rfl w.heap.size 23 i0 (.slice none 0 0) 1 24 Tryz.underlying63 I0.out Z0.out Z1.out Z2.out rfl (by decide) (.slice (some ⟨g, 0, none⟩) (m + 1) cap) _ _ rfl (HOW.out.alloc _) ⟨wr.heap.size, 0, none⟩ 1 1 [.slice none 0 0] rfl rfl (cell_one_new _ _ _) (by intro u hu; simp at hu; subst hu; rfl) (by simp only [maxLen]; omega) (by omega) (Nat.le_trans HBW.out (by simp)) ?_); intro v1 w1 ho1 hg1 hn1 ha1; clear hn1 ha1) | fail)
        have hB2 : Bld w.heap.size 23 9 w1 v1 (css ++ [[]]) (vs ++ [.slice none 0 0]) := Bld.more (Bld.alloc hbld.out _) (by decide) (by rw [hcl.out]; exact ho1) (by rw [hcl.out]; exact hg1)
        obtain ⟨g1, cap1, hv1⟩ := hB2.form (by simp)
        have hv2 : v1 = .slice (some ⟨g1, 0, none⟩) (m + 1 + 1) cap1 := by rw [hv1]; simp [hcl.out]
        have HB2 := yhide hB2
        have HB3 : Hid (Below w.heap.size w w1) := (hbk.out.alloc HBW.out _).grown hg1 (Nat.le_trans HBW.out (by simp)) (fun g' e => (hbld.out.own.lt g' (by rw [hcl.out]; exact e)).1)
        clear hv1 hB2 hg1 ho1
        subst hv2
        go_roundw
        case rel =>
          refine ⟨k + 1, m + 1, g1, cap1, css ++ [[]], vs ++ [Value.slice none 0 0], by omega, by omega, by go_num, rfl, by unfold Hid; simp [hcl.out], ?_, ?_, hnil.out.more hbld.out.len, HB3⟩
          · unfold Hid
            rw [cut_step HX.out, ← hcs.out]
            unfold cutMore
            rw [if_pos rfl]
          · have := HB2.out
            unfold Hid BldT
            rw [List.length_append, hcl.out]
            exact this
        case measure => simp [intOf]; omega
      · have hne := str_neY he
        have HE := yhide he
        have hm1 : m < css.length := by rw [hcl.out]; omega
        have hm2 : m < vs.length := by rw [Bld.len hbld.out]; exact hm1
        obtain ⟨y, hye⟩ : ∃ y, y = vs[m] := ⟨_, rfl⟩
        obtain ⟨cs, hce⟩ : ∃ cs, cs = css[m] := ⟨_, rfl⟩
        have HY : Hid (vs[m]? = some y) := by rw [hye]; exact List.getElem?_eq_getElem hm2
        have HC : Hid (css[m]? = some cs) := by rw [hce]; exact List.getElem?_eq_getElem hm1
        have hcsl : cs.length ≤ 1000000 := by
          have h1 : cs ∈ cutBy t (xs.take k) := by rw [← hcs.out, hce]; exact List.getElem_mem hm1
          have h2 := cutBy_piece h1
          have h3 : (xs.take k).length ≤ k := List.length_take_le _ _
          omega
        have hcy : wr.cell? ⟨g, m, none⟩ = some y := Bld.cell hbld.out HY.out
        have hgw : g < wr.heap.size := (hbld.out.own.lt g rfl).2
        have HGW := yhide hgw
        have HGB : Hid (w.heap.size ≤ g) := (hbld.out.own.lt g rfl).1
        have HFY : Hid (wr.frozen? ⟨g, m, none⟩ = false) := by
          have := hbld.out.own; rw [hcl.out] at this; exact World.ownsRow.frozenAt this m
        have HOY : Hid (wr.ownsRow w.heap.size 9 1 y cs.length (cs.map Value.string)) := hbld.out.inner m y cs HY.out HC.out
        have e9 : IntKind.i64.wrap (m : Int) = (m : Int) := IntWalk.i64_in _ (by omega)
        have b9 : (m : Int) < (m : Int) + 1 := by omega
        have b8 : (k : Int) < (n : Int) := by omega
        have c3 : ∀ o, (wr.alloc o).cell? (ad.add k) = some (.string x) := fun o => (World.cell?_alloc_lt wr o _ (by rw [yblock_add]; exact Nat.lt_of_lt_of_le hb HBW.out)).trans hcell
        have c4 : ∀ o o', ((wr.alloc o).alloc o').cell? (ad.add k) = some (.string x) := fun o o' => (World.cell?_alloc_lt (wr.alloc o) o' _ (by rw [yblock_add]; have := HBW.out; simp; omega)).trans (c3 o)
        have c1 : ∀ o, (wr.alloc o).cell? ⟨g, m, none⟩ = some y := fun o => (World.cell?_alloc_lt wr o _ hgw).trans hcy
        have c2 : ∀ o o', ((wr.alloc o).alloc o').cell? ⟨g, m, none⟩ = some y := fun o o' => (World.cell?_alloc_lt (wr.alloc o) o' _ (by simp; omega)).trans (c1 o)
        have HCX : Hid (wr.cell? (ad.add k) = some (.string x) ∧ (ad.add k).block < wr.heap.size) := ⟨hcell, by rw [yblock_add]; exact Nat.lt_of_lt_of_le hb HBW.out⟩
        -- what stands at the round's end, in whatever order
        have FIN : Hid (∀ (w2 : World) (g2 cap2 : Nat), w2.ownsRow w.heap.size 9 1 (.slice (some ⟨g2, 0, none⟩) (cs.length + 1) cap2) (cs.length + 1) (cs.map Value.string ++ [.string x]) → Below wr.heap.size wr w2 → wr.heap.size ≤ g2 →
            ∀ w3 : World, w3.os = w2.os → w3.tape = w2.tape → w3.output = w2.output → w3.heap = (w2.setCell ⟨g, m, none⟩ (.slice (some ⟨g2, 0, none⟩) (cs.length + 1) cap2)).heap →
            ∃ (css' : List (List ByteArray)) (vs' : List Value), Hid (css'.length = m + 1) ∧ Hid (css' = cutBy t (xs.take (k + 1))) ∧ Hid (BldT w w3 (.slice (some ⟨g, 0, none⟩) css'.length cap) css' vs') ∧ Hid (NilE css' vs') ∧ Hid (Below w.heap.size w w3)) := fun w2 g2 cap2 ho hbl hg2 w3 e1 e2 e3 e4 => by
          have hB2 := Bld.put2 hbld.out (by decide) HY.out HC.out (x := x) ho hbl (fun k e => by simp [Value.ownBlock] at e; omega)
          refine ⟨css.set m (cs ++ [x]), vs.set m (Value.slice (some ⟨g2, 0, none⟩) (cs.length + 1) cap2), by unfold Hid; rw [List.length_set]; exact hcl.out, ?_, ?_, hnil.out.set m cs x _, ?_⟩
          · unfold Hid
            rw [cut_step HX.out, ← hcs.out]
            exact set_last HE.out hcl.out HC.out
          · unfold Hid BldT
            rw [List.length_set]
            exact hB2.like e4
          · exact below_like (((hbk.out.trans (hbl.mono HBW.out)).setCell (p := ⟨g, m, none⟩) HGB.out _)) e1 e2 e3 e4
        have KQ : Hid (∀ w2 : World, Below wr.heap.size wr w2 → w2.cell? ⟨g, m, none⟩ = some y ∧ w2.cell? (ad.add k) = some (.string x) ∧ w2.frozen? ⟨g, m, none⟩ = false ∧ Below wr.heap.size wr w2) := fun w2 hbl => ⟨(hbl.cell (p := ⟨g, m, none⟩) HGW.out).trans hcy, (hbl.cell HCX.out.2).trans HCX.out.1, (hbl.frozen (p := ⟨g, m, none⟩) HGW.out).trans HFY.out, hbl⟩
        have OLD : Hid (∀ w2 : World, Below wr.heap.size wr w2 → w2.cell? ⟨g, m, none⟩ = some y ∧ w2.frozen? ⟨g, m, none⟩ = false) := fun w2 hbl => ⟨(hbl.cell (p := ⟨g, m, none⟩) HGW.out).trans hcy, (hbl.frozen (p := ⟨g, m, none⟩) HGW.out).trans HFY.out⟩
        clear he hye hce hm1 hm2 hb
        cases cs with
        | nil =>
          obtain rfl : y = .slice none 0 0 := hnil.out m y HY.out HC.out
          go_wp2_with fail
          go_region_law (first | (refine step_append_lies _ rfl (.tmp 34) (.tmp 39) 23 rfl w.heap.size 9 j0 (.string ByteArray.empty) 1 16 Tryz.underlying23 J0.out Y0.out Y1.out Y2.out rfl (by decide) (.slice (some ⟨wr.heap.size, 0, none⟩) 0 0) 0 [] rfl (own_ea wr _ _ HBW.out _) ⟨wr.heap.size + 1, 0, none⟩ 1 1 [.string x] rfl rfl (new_xa wr _ _ _) (by intro u hu; simp at hu; subst hu; rfl) (by decide) (by decide) (by decide) (base_two HBW.out rfl) _ rfl ?_; intro g2 cap2 w2 ho hg hat hlt2; have hbl := grow_new2 (wr := wr) (Nat.le_refl _) hg rfl rfl rfl rfl; have HO2 := yhide ho; have HB2 := yhide hbl; obtain ⟨k1, k2⟩ := OLD.out w2 hbl; have HG2 := yhide (grow_at2 (wr := wr) (Nat.le_refl _) hat rfl); clear ho hg hat hlt2 hbl) | (refine step_append_lies _ rfl (.tmp 34) (.tmp 39) 23 rfl w.heap.size 9 j0 (.string ByteArray.empty) 1 16 Tryz.underlying23 J0.out Y0.out Y1.out Y2.out rfl (by decide) (.slice (some ⟨wr.heap.size + 1, 0, none⟩) 0 0) 0 [] rfl (own_eb wr _ _ HBW.out _) ⟨wr.heap.size, 0, none⟩ 1 1 [.string x] rfl rfl (new_xb wr _ _ _) (by intro u hu; simp at hu; subst hu; rfl) (by decide) (by decide) (by decide) (base_two HBW.out rfl) _ rfl ?_; intro g2 cap2 w2 ho hg hat hlt2; have hbl := grow_new2 (wr := wr) (Nat.le_succ _) hg rfl rfl rfl rfl; have HO2 := yhide ho; have HB2 := yhide hbl; obtain ⟨k1, k2⟩ := OLD.out w2 hbl; have HG2 := yhide (grow_at2 (wr := wr) (Nat.le_succ _) hat rfl); clear ho hg hat hlt2 hbl))
          all_goals
            go_wp2
            go_roundw
            case rel =>
              refine ⟨k + 1, m, g, cap, rel_mk (by omega) (by omega) (by go_num) rfl ?_⟩
              exact FIN.out w2 g2 cap2 (by simpa using HO2.out) HB2.out HG2.out _ rfl rfl rfl rfl
            case measure => simp [intOf]; omega
        | cons z zs =>
          obtain ⟨gy, cy, rfl⟩ := own_form HOY.out (by simp)
          have HYN : Hid (∀ j u, ((z :: zs).map Value.string)[j]? = some u → wr.cell? ((⟨gy, 0, none⟩ : Addr).add j) = some u ∧ gy < wr.heap.size) := fun j u hu => ⟨HOY.out.cells (g := gy) rfl j u hu, (HOY.out.lt gy rfl).2⟩
          simp only [List.length_cons] at *
          go_wp2_with fail
          go_region_law (first | (refine step_append_lies _ rfl (.tmp 27) (.tmp 33) 23 rfl w.heap.size 9 j0 (.string ByteArray.empty) 1 16 Tryz.underlying23 J0.out Y0.out Y1.out Y2.out rfl (by decide) (.slice (some ⟨wr.heap.size, 0, none⟩) 0 0) 0 ([]) rfl (own_e0 wr _ _ HBW.out) ⟨gy, 0, none⟩ (zs.length + 1) cy ((z :: zs).map Value.string) rfl (by simp) (old_news HYN.out (below_like (below_one wr _) rfl rfl rfl rfl)) (all_one _) (by omega) (by simp only [maxLen]; omega) (by omega) (base_one HBW.out rfl) _ rfl ?_; intro g2 cap2 w2 ho hg hat hlt2; have hbl := grow_new1 (wr := wr) (Nat.le_refl _) hg rfl rfl rfl rfl; have HO2 := yhide (own_zero ho); have HB2 := yhide hbl; have HG2 := yhide (grow_at1 (wr := wr) (Nat.le_refl _) hat rfl); obtain ⟨k1, k2⟩ := OLD.out w2 hbl; have k3 := (hbl.cell HCX.out.2).trans HCX.out.1; clear ho hg hat hlt2 hbl) | (refine step_append_lies _ rfl (.tmp 27) (.tmp 33) 23 rfl w.heap.size 9 j0 (.string ByteArray.empty) 1 16 Tryz.underlying23 J0.out Y0.out Y1.out Y2.out rfl (by decide) (.slice (some ⟨wr.heap.size, 0, none⟩) 0 0) 0 ([]) rfl (own_ea wr _ _ HBW.out _) ⟨gy, 0, none⟩ (zs.length + 1) cy ((z :: zs).map Value.string) rfl (by simp) (old_news HYN.out (below_like (below_two wr _ _) rfl rfl rfl rfl)) (all_one _) (by omega) (by simp only [maxLen]; omega) (by omega) (base_two HBW.out rfl) _ rfl ?_; intro g2 cap2 w2 ho hg hat hlt2; have hbl := grow_new2 (wr := wr) (Nat.le_refl _) hg rfl rfl rfl rfl; have HO2 := yhide (own_zero ho); have HB2 := yhide hbl; have HG2 := yhide (grow_at2 (wr := wr) (Nat.le_refl _) hat rfl); obtain ⟨k1, k2⟩ := OLD.out w2 hbl; have k3 := (hbl.cell HCX.out.2).trans HCX.out.1; have HXN := yhide (xn_far (x := .string x) hg (new_xa wr _ _ _) (by first | (simp; done) | (simp; omega)) (by first | (simp [Value.ownBlock]; done) | (simp [Value.ownBlock]; omega))); clear ho hg hat hlt2 hbl) | (refine step_append_lies _ rfl (.tmp 27) (.tmp 33) 23 rfl w.heap.size 9 j0 (.string ByteArray.empty) 1 16 Tryz.underlying23 J0.out Y0.out Y1.out Y2.out rfl (by decide) (.slice (some ⟨wr.heap.size + 1, 0, none⟩) 0 0) 0 ([]) rfl (own_eb wr _ _ HBW.out _) ⟨gy, 0, none⟩ (zs.length + 1) cy ((z :: zs).map Value.string) rfl (by simp) (old_news HYN.out (below_like (below_two wr _ _) rfl rfl rfl rfl)) (all_one _) (by omega) (by simp only [maxLen]; omega) (by omega) (base_two HBW.out rfl) _ rfl ?_; intro g2 cap2 w2 ho hg hat hlt2; have hbl := grow_new2 (wr := wr) (Nat.le_succ _) hg rfl rfl rfl rfl; have HO2 := yhide (own_zero ho); have HB2 := yhide hbl; have HG2 := yhide (grow_at2 (wr := wr) (Nat.le_succ _) hat rfl); obtain ⟨k1, k2⟩ := OLD.out w2 hbl; have k3 := (hbl.cell HCX.out.2).trans HCX.out.1; have HXN := yhide (xn_far (x := .string x) hg (new_xb wr _ _ _) (by first | (simp; done) | (simp; omega)) (by first | (simp [Value.ownBlock]; done) | (simp [Value.ownBlock]; omega))); clear ho hg hat hlt2 hbl) | (refine step_append_lies _ rfl (.tmp 34) (.tmp 39) 23 rfl w.heap.size 9 j0 (.string ByteArray.empty) 1 16 Tryz.underlying23 J0.out Y0.out Y1.out Y2.out rfl (by decide) (.slice (some ⟨g2, 0, none⟩) (zs.length + 1) cap2) (zs.length + 1) ((z :: zs).map Value.string) rfl (HO2.out.alloc _) ⟨w2.heap.size, 0, none⟩ 1 1 ([.string x]) rfl rfl (cell_one_new w2 _ _) (one_one _) (by omega) (by simp only [maxLen]; omega) (by omega) (base_on HBW.out HB2.out rfl) _ rfl ?_; intro g3 cap3 w4 ho hg hat hlt2; have hbl := grow_on (wr := wr) HB2.out HG2.out hg rfl rfl rfl rfl; have HO3 := yhide ho; have HB3 := yhide hbl; have HG3 := yhide (grow_onat (wr := wr) HB2.out HG2.out hat rfl); obtain ⟨m1, m2⟩ := OLD.out w4 hbl; clear ho hg hat hlt2 hbl) | (refine step_append_lies _ rfl (.tmp 34) (.tmp 39) 23 rfl w.heap.size 9 j0 (.string ByteArray.empty) 1 16 Tryz.underlying23 J0.out Y0.out Y1.out Y2.out rfl (by decide) (.slice (some ⟨g2, 0, none⟩) (zs.length + 1) cap2) (zs.length + 1) ((z :: zs).map Value.string) rfl (HO2.out) ⟨wr.heap.size + 1, 0, none⟩ 1 1 ([.string x]) rfl rfl (HXN.out) (one_one _) (by omega) (by simp only [maxLen]; omega) (by omega) (base_at HBW.out HB2.out rfl) _ rfl ?_; intro g3 cap3 w4 ho hg hat hlt2; have hbl := grow_up (wr := wr) HB2.out HG2.out hg rfl rfl rfl rfl; have HO3 := yhide ho; have HB3 := yhide hbl; have HG3 := yhide (grow_upat (wr := wr) HB2.out HG2.out hat rfl); obtain ⟨m1, m2⟩ := OLD.out w4 hbl; clear ho hg hat hlt2 hbl) | (refine step_append_lies _ rfl (.tmp 34) (.tmp 39) 23 rfl w.heap.size 9 j0 (.string ByteArray.empty) 1 16 Tryz.underlying23 J0.out Y0.out Y1.out Y2.out rfl (by decide) (.slice (some ⟨g2, 0, none⟩) (zs.length + 1) cap2) (zs.length + 1) ((z :: zs).map Value.string) rfl (HO2.out) ⟨wr.heap.size, 0, none⟩ 1 1 ([.string x]) rfl rfl (HXN.out) (one_one _) (by omega) (by simp only [maxLen]; omega) (by omega) (base_at HBW.out HB2.out rfl) _ rfl ?_; intro g3 cap3 w4 ho hg hat hlt2; have hbl := grow_up (wr := wr) HB2.out HG2.out hg rfl rfl rfl rfl; have HO3 := yhide ho; have HB3 := yhide hbl; have HG3 := yhide (grow_upat (wr := wr) HB2.out HG2.out hat rfl); obtain ⟨m1, m2⟩ := OLD.out w4 hbl; clear ho hg hat hlt2 hbl))
          all_goals
            go_wp2
            go_roundw
            case rel =>
              refine ⟨k + 1, m, g, cap, rel_mk (by omega) (by omega) (by go_num) rfl ?_⟩
              exact FIN.out w4 g3 cap3 HO3.out HB3.out HG3.out _ rfl rfl rfl rfl
            case measure => simp [intOf]; omega
    · obtain rfl : k = n := by omega
      have HR : Hid (ListsC w (cutBy t xs) (.returned (.slice (some ⟨g, 0, none⟩) (m + 1) cap)) wr) := by
        have e : cutBy t xs = css := by
          rw [hcs.out, List.take_of_length_le (by rw [← HN.out]; exact Nat.le_refl _)]
        rw [e]
        exact ⟨⟨g, 0, none⟩, cap, by rw [hcl.out], Bld.rss hbld.out, Bld.caps hbld.out, hbk⟩
      go_wp2
      go_ret
      exact HR.out
end Go.Proofs.YthdpojkeceoiiaaGreatDoor
end

section
/- The document's own Number. Conditions: at most 1000000 bytes. -/
open Go.RowKit
set_option maxRecDepth 100000
namespace Go.Proofs.YthdpojkeceoiiaaGreatDoor
theorem rnumber_any {s : ByteArray} (hs : s.size ≤ 1000000) (w : World) : Calls Tryz.prog 70 #[.string s] w fun e w' => e = .returned (.bool (numW s.data.toList)) ∧ w = w' := by
  obtain ⟨b, hb⟩ : ∃ b, figW s.data.toList = b := ⟨_, rfl⟩
  have CC := yhide (fun W => figures_any (Nat.le_trans hs (by decide)) W)
  rw [hb] at CC
  have HB := yhide hb
  clear hb
  cases b
  · have HN : Hid (numW s.data.toList = false) := by
      have h := HB.out
      unfold figW at h
      unfold Hid numW
      cases hl : s.data.toList with
      | nil => rfl
      | cons c l =>
        rw [hl] at h
        have h2 : (c :: l).all wdig = false := by simpa using h
        rw [h2]; simp
    go_enter Tryz.func70, Tryz.ntmps70
    go_wp2_with (first | (go_at_call 97; (with_reducible refine (CC.out _).mono ?_); rintro e w1 ⟨rfl, rfl⟩) | fail)
    go_ret
    exact ⟨ybool HN.out.symm, rfl⟩
  · have hs0 : 0 < s.size := by
      have h := HB.out
      rw [Lib.size_eq]
      cases hl : s.data.toList with
      | nil => rw [hl] at h; cases h
      | cons c l => simp
    have HN : Hid (numW s.data.toList = (decide (s.size ≤ 20) && !((s[0].toNat : Int) == 48))) := by
      unfold Hid
      rw [← num_head hs0]
      have h := HB.out
      unfold figW at h
      simp only [Bool.and_eq_true] at h
      unfold numW
      rw [h.2, Lib.size_eq, decide_eq_true (show 1 ≤ s.data.toList.length by rw [← Lib.size_eq]; omega)]; simp
    by_cases h2 : s.size ≤ 20
    · have d2 : decide ((s.size : Int) ≤ 20) = true := decide_eq_true (by omega)
      rw [decide_eq_true h2] at HN
      clear h2
      cases hc : ((s[0].toNat : Int) == 48)
      · rw [hc] at HN
        go_enter Tryz.func70, Tryz.ntmps70
        go_wp2_with (first | (go_at_call 97; (with_reducible refine (CC.out _).mono ?_); rintro e w1 ⟨rfl, rfl⟩) | fail)
        go_ret
        exact ⟨ybool (by rw [HN.out, bne, hc]; rfl), rfl⟩
      · rw [hc] at HN
        go_enter Tryz.func70, Tryz.ntmps70
        go_wp2_with (first | (go_at_call 97; (with_reducible refine (CC.out _).mono ?_); rintro e w1 ⟨rfl, rfl⟩) | fail)
        go_ret
        exact ⟨ybool (by rw [HN.out, bne, hc]; rfl), rfl⟩
    · have d2 : decide ((s.size : Int) ≤ 20) = false := decide_eq_false (by omega)
      rw [decide_eq_false h2] at HN
      clear h2
      go_enter Tryz.func70, Tryz.ntmps70
      go_wp2_with (first | (go_at_call 97; (with_reducible refine (CC.out _).mono ?_); rintro e w1 ⟨rfl, rfl⟩) | fail)
      go_ret
      exact ⟨ybool HN.out.symm, rfl⟩
end Go.Proofs.YthdpojkeceoiiaaGreatDoor
end
