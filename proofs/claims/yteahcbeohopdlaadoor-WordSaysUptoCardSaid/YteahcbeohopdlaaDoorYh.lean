/- Words: Cut. Conditions: a row of at most 1000000 texts. -/
import Derived.Test.YteahcbeohopdlaaDoorYg
import Derived.Test.YteahcbeohopdlaaDoorYc
import Derived.Deep.OwnRows
open Go.RowKit
set_option maxRecDepth 100000
namespace Go.Proofs.YteahcbeohopdlaaDoor
theorem Tryd.infoStr : (Tryd.prog.info? 9).map (fun i => (i.zero, i.size, i.bytes)) = some (some (.string ByteArray.empty), 1, 16) := by kernel_rfl
theorem Tryd.infoStrs : (Tryd.prog.info? 57).map (fun i => (i.zero, i.size, i.bytes)) = some (some (.slice none 0 0), 1, 24) := by kernel_rfl
/-- What a call leaves that returns lists of strings. -/
def ListsR (W : World) (css : List (List ByteArray)) (e : Ending) (w' : World) : Prop := ∃ ad c, e = .returned (.slice (some ad) css.length c) ∧ Sss w' (some ad) css ∧ Hid (Below W.heap.size W w')
def BldT (w : World) (wr : World) (v : Value) (css : List (List ByteArray)) (vs : List Value) : Prop := Bld w.heap.size 57 9 wr v css vs
theorem str_ne {x y : ByteArray} (h : x ≠ y) : (x.toList == y.toList) = false := by
  rw [beq_eq_false_iff_ne]
  intro e
  rw [Lib.toList_data, Lib.toList_data] at e
  exact h (ByteArray.ext (Array.ext' e))
theorem cut_len {x : ByteArray} {xs : List ByteArray} (k : Nat) : (cutBy x (xs.take k)).length ≤ k + 1 := by
  have h1 := cutBy_le (a := x) (xs.take k)
  have h2 : (xs.take k).length ≤ k := List.length_take_le _ _
  omega
set_option maxHeartbeats 2000000 in
theorem wcut_any {A : Option Addr} {n c : Nat} {xs : List ByteArray} {t : ByteArray} {w : World} (h : Ss w A xs) (hn : n = xs.length) (hl : n ≤ 1000000) :
    Calls Tryd.prog 51 #[.slice A n c, .string t] w (ListsR w (cutBy t xs)) := by
  have HN := yhide hn
  clear hn
  have hmk := run_make_row' (P := Tryd.prog) 82 57 (.slice none 0 0) 24 Tryd.underlying82 Tryd.infoStrs rfl .i64 .i64 1 (by decide) (by decide)
  have hmk1 : ∀ W : World, (Instr.makeSlice 82 (.int .i64 1) (.int .i64 1)).run Tryd.prog W = .ok (.slice (some ⟨W.heap.size, 0, none⟩) 1 1) (W.alloc (.cells #[.slice none 0 0] 57)) := fun W => by
    have h1 := hmk W
    rw [show madeCells #[Value.slice none 0 0] 1 = #[Value.slice none 0 0] by kernel_rfl] at h1
    exact h1
  clear hmk
  obtain ⟨i0, hi0, hz0, hz1, hz2⟩ := info_parts Tryd.infoStrs
  have I0 := yhide hi0; have Z0 := yhide hz0; have Z1 := yhide hz1; have Z2 := yhide hz2
  clear hi0 hz0 hz1 hz2
  obtain ⟨j0, hj0, hy0, hy1, hy2⟩ := info_parts Tryd.infoStr
  have J0 := yhide hj0; have Y0 := yhide hy0; have Y1 := yhide hy1; have Y2 := yhide hy2
  clear hj0 hy0 hy1 hy2
  go_enter Tryd.func51, Tryd.ntmps51
  go_wp2
  clear hmk1
  go_loopw [5, 12] (fun lv iv wr => ∃ (k m g cap : Nat) (css : List (List ByteArray)) (vs : List Value), k ≤ n ∧ m ≤ k ∧ iv = .int .i64 (k : Int) ∧ lv = .slice (some ⟨g, 0, none⟩) (m + 1) cap ∧ Hid (css.length = m + 1) ∧ Hid (css = cutBy t (xs.take k)) ∧
      Hid (BldT w wr (.slice (some ⟨g, 0, none⟩) css.length cap) css vs) ∧ Hid (Below w.heap.size w wr)) (fun _ iv _ => n - (intOf iv).toNat)
  case atStart => exact ⟨0, 0, w.heap.size, 1, [[]], [.slice none 0 0], Nat.zero_le _, Nat.le_refl _, rfl, rfl, rfl, rfl, Bld.start (Nat.le_refl _), (Below.refl _ _).alloc (Nat.le_refl _) _⟩
  case round =>
    obtain ⟨k, m, g, cap, css, vs, hk, hmk, rfl, rfl, hcl, hcs, hbld, hbk⟩ := hrel
    by_cases hlt : k < n
    · have hx : k < xs.length := by rw [← HN.out]; exact hlt
      obtain ⟨ad, rfl, hb, hcell⟩ := h.out.at_ hx
      obtain ⟨x, hxe⟩ : ∃ x, x = xs[k] := ⟨_, rfl⟩
      have HX : Hid (xs[k]? = some x) := by rw [hxe]; exact List.getElem?_eq_getElem hx
      rw [← hxe] at hcell
      replace hcell : wr.cell? (ad.add k) = some (.string x) := (hbk.out.cell (by rw [yblock_add]; exact hb)).trans hcell
      have HBW := yhide hbk.out.size
      clear hxe hx
      by_cases he : x = t
      · subst he
        have HOW : Hid (wr.ownsRow w.heap.size 57 1 (.slice (some ⟨g, 0, none⟩) (m + 1) cap) (m + 1) vs) := by have := hbld.out.own; rw [hcl.out] at this; exact this
        go_wp2_with (first | (at_builtin; go_must (refine wpList_append_own_at _ rfl (.tmp 19) (.tmp 20) 82 rfl w.heap.size 57 i0 (.slice none 0 0) 1 24 Tryd.underlying82 I0.out Z0.out Z1.out Z2.out rfl (by decide) (.slice (some ⟨g, 0, none⟩) (m + 1) cap) _ _ rfl (HOW.out.alloc _) ⟨wr.heap.size, 0, none⟩ 1 1 [.slice none 0 0] rfl rfl (cell_one_new _ _ _) (by intro u hu; simp at hu; subst hu; rfl) (by simp only [maxLen]; omega) (by omega) (Nat.le_trans HBW.out (by simp)) ?_); intro v1 w1 ho1 hg1 hn1 ha1; clear hn1 ha1) | fail)
        have hB2 : Bld w.heap.size 57 9 w1 v1 (css ++ [[]]) (vs ++ [.slice none 0 0]) := Bld.more (Bld.alloc hbld.out _) (by decide) (by rw [hcl.out]; exact ho1) (by rw [hcl.out]; exact hg1)
        obtain ⟨g1, cap1, hv1⟩ := hB2.form (by simp)
        have hv2 : v1 = .slice (some ⟨g1, 0, none⟩) (m + 1 + 1) cap1 := by rw [hv1]; simp [hcl.out]
        have HB2 := yhide hB2
        have HB3 : Hid (Below w.heap.size w w1) := (hbk.out.alloc HBW.out _).grown hg1 (Nat.le_trans HBW.out (by simp)) (fun g' e => (hbld.out.own.lt g' (by rw [hcl.out]; exact e)).1)
        clear hv1 hB2 hg1 ho1
        subst hv2
        go_roundw
        case rel =>
          refine ⟨k + 1, m + 1, g1, cap1, css ++ [[]], vs ++ [.slice none 0 0], by omega, by omega, by go_num, rfl, by unfold Hid; simp [hcl.out], ?_, ?_, HB3⟩
          · unfold Hid
            rw [cut_step HX.out, ← hcs.out]
            unfold cutMore
            rw [if_pos rfl]
          · have := HB2.out
            unfold Hid BldT
            rw [List.length_append, hcl.out]
            exact this
        case measure => simp [intOf]; omega
      · have hne := str_ne he
        have HE := yhide he
        have hm1 : m < css.length := by rw [hcl.out]; omega
        have hm2 : m < vs.length := by rw [Bld.len hbld.out]; exact hm1
        obtain ⟨y, hye⟩ : ∃ y, y = vs[m] := ⟨_, rfl⟩
        obtain ⟨cs, hce⟩ : ∃ cs, cs = css[m] := ⟨_, rfl⟩
        have HY : Hid (vs[m]? = some y) := by rw [hye]; exact List.getElem?_eq_getElem hm2
        have HC : Hid (css[m]? = some cs) := by rw [hce]; exact List.getElem?_eq_getElem hm1
        have hcsl : cs.length ≤ 1000000 := by
          have h1 : cs ∈ cutBy t (xs.take k) := by rw [← hcs.out, hce]; exact List.getElem_mem hm1
          have h2 := cutBy_piece h1
          have h3 : (xs.take k).length ≤ k := List.length_take_le _ _
          omega
        have hcy : wr.cell? ⟨g, m, none⟩ = some y := Bld.cell hbld.out HY.out
        have HOW : Hid (wr.ownsRow w.heap.size 57 1 (.slice (some ⟨g, 0, none⟩) (m + 1) cap) (m + 1) vs) := by have := hbld.out.own; rw [hcl.out] at this; exact this
        have HOY : Hid (wr.ownsRow w.heap.size 9 1 y cs.length (cs.map Value.string)) := hbld.out.inner m y cs HY.out HC.out
        clear he hye hce hm1 hm2
        go_wp2_with (first | (at_builtin; go_must (refine wpList_append_own_at _ rfl (.tmp 30) (.tmp 32) 57 rfl w.heap.size 9 j0 (.string ByteArray.empty) 1 16 Tryd.underlying57 J0.out Y0.out Y1.out Y2.out rfl (by decide) y _ _ rfl (HOY.out.alloc _) ⟨wr.heap.size, 0, none⟩ 1 1 [.string x] rfl rfl (cell_one_new _ _ _) (by intro u hu; simp at hu; subst hu; rfl) (by simp only [maxLen]; omega) (by omega) (Nat.le_trans HBW.out (by simp)) ?_; intro v1 w1 ho1 hg1 hn1 ha1; clear hn1; obtain ⟨⟨g1, cap1, rfl⟩, hc2, hf2⟩ := arm_facts HOW HOY (by decide) HY ho1 hg1; have HO1 := yhide ho1; have HG1 := yhide hg1; have HA1 := yhide ha1; clear ho1 hg1 ha1)))
        go_roundw
        case rel =>
          have hB2 := Bld.put hbld.out (by decide) HY.out HC.out (x := x) HO1.out HG1.out HA1.out
          refine ⟨k + 1, m, g, cap, css.set m (cs ++ [x]), vs.set m (.slice (some ⟨g1, 0, none⟩) (cs.length + 1) cap1), by omega, by omega, by go_num, rfl, by unfold Hid; rw [List.length_set]; exact hcl.out, ?_, ?_, ?_⟩
          · unfold Hid
            rw [cut_step HX.out, ← hcs.out]
            exact set_last HE.out hcl.out HC.out
          · unfold Hid BldT
            rw [List.length_set]
            exact hB2
          · exact (((hbk.out.alloc HBW.out _).grown HG1.out (Nat.le_trans HBW.out (by simp)) (fun g' e => (HOY.out.lt g' e).1)).setCell (p := ⟨g, m, none⟩) (hbld.out.own.lt g rfl).1 _)
        case measure => simp [intOf]; omega
    · obtain rfl : k = n := by omega
      have HR : Hid (ListsR w (cutBy t xs) (.returned (.slice (some ⟨g, 0, none⟩) (m + 1) cap)) wr) := by
        have e : cutBy t xs = css := by
          rw [hcs.out, List.take_of_length_le (by rw [← HN.out]; exact Nat.le_refl _)]
        rw [e]
        exact ⟨⟨g, 0, none⟩, cap, by rw [hcl.out], Bld.rss hbld.out, hbk⟩
      go_wp2
      go_ret
      exact HR.out
end Go.Proofs.YteahcbeohopdlaaDoor
