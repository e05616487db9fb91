/- Several texts in one, each with its own sentence and conditions. -/
import Derived.Test.YtfknclimoihfdaaDoorGOdc6
import Derived.Test.YtfknclimoihfdaaDoorGOdc9
import Derived.Deep.RegionHeld3
import Derived.Test.YtfknclimoihfdaaDoorGOdc7
import Derived.Deep.LoopGhost
section
/- Sub: the difference. Conditions: at most 100000 words each. -/
open Go.RowKit
set_option maxRecDepth 100000
namespace Go.Proofs.YtfknclimoihfdaaDoor
/-- What Sub leaves. -/
def SubPost (w : World) (m m' : Nat) (e : Ending) (w' : World) : Prop :=
  if m' ≤ m then ∃ A c, e = .returned (.tuple #[.agg #[.slice A (dl (m - m')) c], .bool true]) ∧ Can w' w'.heap.size A c (m - m') ∧ Below w.heap.size w w'
  else e = .returned (.tuple #[.agg #[.slice none 0 0], .bool false]) ∧ Below w.heap.size w w'
set_option maxHeartbeats 2000000 in
theorem Sub_any {A A' : Option Addr} {n n' c c' m m' : Nat} {w : World} (h : Arg w w.heap.size A n c m) (h' : Arg w w.heap.size A' n' c' m') :
    Calls Tryd.prog 13 #[.agg #[.slice A n c], .agg #[.slice A' n' c']] w (SubPost w m m') := by
  have H : Hid (∀ o1 o2 v t k, Arg ((((w.alloc o1).alloc o2).alloc (.cells #[v] t)).drewN k) w.heap.size A n c m) := fun o1 o2 v t k => h.below (pre3 w o1 o2 v t k).1
  have H' : Hid (∀ o1 o2 v t k, Arg ((((w.alloc o1).alloc o2).alloc (.cells #[v] t)).drewN k) w.heap.size A' n' c' m') := fun o1 o2 v t k => h'.below (pre3 w o1 o2 v t k).1
  have hl : dl m ≤ 100000 := by have := h.digs.2; obtain ⟨_, _, _, h3, _⟩ := h; omega
  have hl' : dl m' ≤ 100000 := by have := h'.digs.2; obtain ⟨_, _, _, h3, _⟩ := h'; omega
  have HX := hide h.digs.1
  have HY := hide h'.digs.1
  clear h h'
  by_cases hmm : m' ≤ m
  · have HM := hide hmm
    have hcm : ¬ cmpI m m' < 0 := by unfold cmpI; rw [if_neg (by omega)]; split <;> omega
    clear hmm
    go_enter Tryd.func13, Tryd.ntmps13
    go_wp2_with fail
    go_quiet ((go_at_call 69; first | exact quiet_left (trim_arg (H.out _ _ _ _ _)) | exact quiet_left (trim_arg (H'.out _ _ _ _ _))))
    go_wp2_with (first | (go_at_call 70; go_must (refine (compare_can (H.out _ _ _ _ _).digs.1 (H'.out _ _ _ _ _).digs.1 hl hl').mono ?_); rintro e w' ⟨rfl, q, rfl⟩) | (at_make; go_must (refine wpList_words rfl _ _ rfl (dl m) rfl rfl (by omega) ?_; intro g w1 hg hb1 hbel)))
    have HG : Hid (g = w.heap.size + 3) := by unfold Hid; rw [hg.out]; exact (pre3 w _ _ _ _ _).2.1
    have hB : w.heap.size ≤ g := by have := HG.out; omega
    obtain ⟨hw1, hres, hsz1⟩ := after3 hbel
    have HRES := hide hres
    have HW1 := hide hw1
    have hlm : dl m' ≤ dl m := digs_len_mono (by decide) HM.out
    clear hbel hres hg hw1 H H' hcm
    go_loopw [9, 30] (fun cv iv wr => ∃ i cr : Nat, ∃ seg : List Nat, i ≤ dl m ∧ cr ≤ 1 ∧ cv = .int .u64 (cr : Int) ∧ iv = .int .i64 (i : Int) ∧ Hid (seg.length = i) ∧ Hid (Good32 seg) ∧ Hid (val W32 seg + val W32 ((digs W32 m').take i) = val W32 ((digs W32 m).take i) + W32 ^ i * cr) ∧
        Hid (Blk U32 30 wr g (seg ++ List.replicate (dl m - i) 0)) ∧ Hid (w1.grownBy wr (some g)))
      (fun _ iv _ => dl m - (intOf iv).toNat)
    case atStart => exact ⟨0, 0, [], Nat.zero_le _, by omega, rfl, rfl, rfl, by intro x hx; simp at hx, by simp [Hid, val], hb1, World.grownBy.refl _ _⟩
    case round =>
      obtain ⟨i, cr, seg, hi, hcr, rfl, rfl, hsl, hsg, hval, hblk, hgr⟩ := hrel
      by_cases hlt : i < dl m
      · have hix : i < (digs W32 m).length := hlt
        have HXR := hide ((HX.out.below HW1.out).2.grown hgr.out hB)
        have HYR := hide ((HY.out.below HW1.out).2.grown hgr.out hB)
        obtain ⟨ad, rfl, hab, hcx⟩ := HXR.out.at_ hix
        obtain ⟨x, hxe⟩ : ∃ x, x = (digs W32 m)[i] := ⟨_, rfl⟩
        rw [← hxe] at hcx
        have RX := hide (val_take_succ W32 (L := digs W32 m) (i := i) (x := x) (by rw [hxe]; exact List.getElem?_eq_getElem hix))
        have hxW : x ≤ 4294967295 := word_le (by rw [hxe]; exact good_digs m _ (List.getElem_mem _))
        obtain ⟨z, hz⟩ : ∃ z, dl m - i = z + 1 := ⟨dl m - i - 1, by omega⟩
        rw [hz] at hblk
        have HZ := hide hz
        have hcs : wr.cell? ⟨g, i, none⟩ = some (.int .u32 0) := hblk.out.cell (get_zeros hsl.out)
        have hfz := hblk.out.frozen i
        unfold U32 at hcx
        clear hxe hix hz
        have fin : ∀ (r q t y : Nat) (vy : Hid (val W32 ((digs W32 m').take (i + 1)) = val W32 ((digs W32 m').take i) + W32 ^ i * y)) (ht : t = cr + y) (hr : r < W32) (hq : q ≤ 1) (he : r + t = x + W32 * q), 
            Hid (val W32 (seg ++ [r]) + val W32 ((digs W32 m').take (i + 1)) = val W32 ((digs W32 m).take (i + 1)) + W32 ^ (i + 1) * q) ∧ Hid (Good32 (seg ++ [r])) ∧ Hid ((seg ++ [r]).length = i + 1) ∧
            Hid (Blk U32 30 (wr.setCell ⟨g, i, none⟩ (.int .u32 (r : Int))) g ((seg ++ [r]) ++ List.replicate (dl m - (i + 1)) 0)) ∧ Hid (w1.grownBy (wr.setCell ⟨g, i, none⟩ (.int .u32 (r : Int))) (some g)) := by
          intro r q t y vy ht hr hq he
          refine ⟨?_, good_snoc hsg.out hr, by unfold Hid; simp [hsl.out], ?_, grown_set hgr.out _ _⟩
          · unfold Hid
            rw [val_snoc, hsl.out, vy.out, RX.out, Nat.pow_succ]
            exact sub_math hval.out ht he
          · have hb : Blk U32 30 (wr.setCell ⟨g, i, none⟩ (.int .u32 (r : Int))) g _ := hblk.out.set_ i r
            rw [set_zeros hsl.out] at hb
            rw [show dl m - (i + 1) = z by have := HZ.out; omega]
            exact hb
        have FIN := hide fin
        clear fin
        by_cases hs : i < dl m'
        · have hiy : i < (digs W32 m').length := hs
          obtain ⟨ad', rfl, hab', hcy⟩ := HYR.out.at_ hiy
          obtain ⟨y, hye⟩ : ∃ x, x = (digs W32 m')[i] := ⟨_, rfl⟩
          rw [← hye] at hcy
          have RY := hide (val_take_succ W32 (L := digs W32 m') (i := i) (x := y) (by rw [hye]; exact List.getElem?_eq_getElem hiy))
          have hyW : y ≤ 4294967295 := word_le (by rw [hye]; exact good_digs m' _ (List.getElem_mem _))
          unfold U32 at hcy
          clear hye hiy
          by_cases hxt : cr + y ≤ x
          · go_wp2
            go_roundw
            case rel =>
              have e1 : ((x : Int) - ((cr : Int) + (y : Int))) / 9223372036854775808 = ((0 : Nat) : Int) := by omega
              have e2 : ((x : Int) - ((cr : Int) + (y : Int))) = ((x - (cr + y) : Nat) : Int) := by omega
              obtain ⟨f1, f2, f3, f4, f5⟩ := FIN.out (x - (cr + y)) 0 (cr + y) y RY rfl (by rw [W32_eq]; omega) (by omega) (by omega)
              rw [e1, e2]
              exact ⟨i + 1, 0, seg ++ [x - (cr + y)], by omega, by omega, rfl, by go_num, f3, f2, f1, f4, f5⟩
            case measure => simp [intOf]; omega
          · go_wp2
            go_roundw
            case rel =>
              obtain ⟨e2, e1⟩ := sub_wrap (x := x) (t := cr + y) (by rw [W32_eq]; omega) (by rw [W32_eq]; omega) (by omega)
              rw [Int.natCast_add] at e1 e2
              obtain ⟨f1, f2, f3, f4, f5⟩ := FIN.out (W32 + x - (cr + y)) 1 (cr + y) y RY rfl (by rw [W32_eq]; omega) (by omega) (by rw [W32_eq]; omega)
              rw [e1, e2]
              exact ⟨i + 1, 1, seg ++ [W32 + x - (cr + y)], by omega, by omega, rfl, by go_num, f3, f2, f1, f4, f5⟩
            case measure => simp [intOf]; omega
        · have RY : Hid (val W32 ((digs W32 m').take (i + 1)) = val W32 ((digs W32 m').take i) + W32 ^ i * 0) := val_take_more W32 (L := digs W32 m') (i := i) (show dl m' ≤ i by omega)
          by_cases hxt : cr ≤ x
          · go_wp2
            go_roundw
            case rel =>
              have e1 : ((x : Int) - (cr : Int)) / 9223372036854775808 = ((0 : Nat) : Int) := by omega
              have e2 : ((x : Int) - (cr : Int)) = ((x - cr : Nat) : Int) := by omega
              obtain ⟨f1, f2, f3, f4, f5⟩ := FIN.out (x - cr) 0 cr 0 RY rfl (by rw [W32_eq]; omega) (by omega) (by omega)
              rw [e1, e2]
              exact ⟨i + 1, 0, seg ++ [x - cr], by omega, by omega, rfl, by go_num, f3, f2, f1, f4, f5⟩
            case measure => simp [intOf]; omega
          · go_wp2
            go_roundw
            case rel =>
              obtain ⟨e2, e1⟩ := sub_wrap (x := x) (t := cr) (by rw [W32_eq]; omega) (by rw [W32_eq]; omega) (by omega)
              obtain ⟨f1, f2, f3, f4, f5⟩ := FIN.out (W32 + x - cr) 1 cr 0 RY rfl (by rw [W32_eq]; omega) (by omega) (by rw [W32_eq]; omega)
              rw [e1, e2]
              exact ⟨i + 1, 1, seg ++ [W32 + x - cr], by omega, by omega, rfl, by go_num, f3, f2, f1, f4, f5⟩
            case measure => simp [intOf]; omega
      · obtain rfl : i = dl m := by omega
        obtain ⟨hr3, hr4⟩ := one_cell ((hgr.out.block _ (by omega) (by intro e; injection e with e; have := HG.out; omega)).trans HRES.out)
        have hlz : seg ++ List.replicate (dl m - dl m) 0 = seg := by simp
        rw [hlz] at hblk
        have HV : Hid (val W32 seg = m - m') := by
          unfold Hid
          have h1 := hval.out
          rw [List.take_of_length_le (show (digs W32 m).length ≤ dl m from Nat.le_refl _), List.take_of_length_le (show (digs W32 m').length ≤ dl m from hlm), val_digs32, val_digs32] at h1
          have h2 := val_lt seg hsg.out
          rw [hsl.out] at h2
          have h3 := HM.out
          have h4 : cr = 0 ∨ cr = 1 := by omega
          rcases h4 with rfl | rfl <;> omega
        clear hlz
        go_wp2_with (first | (go_at_call 69; go_must (refine (trim_own hblk.out hsl.out.symm hsg.out (by omega) (by omega) HV.out).mono ?_); rintro e w2 ⟨rfl, rfl⟩))
        refine bodyPost_ret (v := .tuple #[.agg #[.slice (some ⟨g, 0, none⟩) (dl (m - m')) (dl m)], .bool true]) (by simp [results, Tryd.results13, go_sem, hr3]) rfl ?_
        unfold SubPost
        rw [if_pos HM.out]
        exact ⟨_, _, rfl, can_own (hblk.out.far (p := ⟨w.heap.size + 1 + 1, 0, none⟩) (by have := HG.out; simp; omega) _) hsl.out.symm hsg.out (Nat.le_refl _) HV.out, (HW1.out.trans (grown_below hgr.out hB hb1.out.lt)).setCell (by simp; omega) _⟩
  · have HM := hide hmm
    have hcm : cmpI m m' < 0 := by rw [cmpI_lt (by omega)]; omega
    clear hmm
    go_enter Tryd.func13, Tryd.ntmps13
    go_wp2_with fail
    go_quiet ((go_at_call 69; first | exact quiet_left (trim_arg (H.out _ _ _ _ _)) | exact quiet_left (trim_arg (H'.out _ _ _ _ _))))
    go_wp2_with (first | (go_at_call 70; go_must (refine (compare_can (H.out _ _ _ _ _).digs.1 (H'.out _ _ _ _ _).digs.1 hl hl').mono ?_); rintro e w' ⟨rfl, q, rfl⟩))
    refine bodyPost_ret (v := .tuple #[.agg #[.slice none 0 0], .bool false]) (by simp [results, Tryd.results13, go_sem]) rfl ?_
    unfold SubPost
    rw [if_neg HM.out]
    refine ⟨rfl, ?_⟩
    exact (pre3 w _ _ _ _ _).1.setCell (by simp; omega) _
end Go.Proofs.YtfknclimoihfdaaDoor
end

section
/- Words for statements: arguments that tell numbers in every later world; cells of a statement's own variables kept through calls. No conditions. -/
open Go.RowKit
set_option maxRecDepth 100000
namespace Go.Proofs.YtfknclimoihfdaaDoor
theorem keep4 {w W W' : World} {b : Nat} {v0 v1 v2 : Value} (hb : Hid (Below W.heap.size W W'))
    (h : W.cell? ⟨b, 0, none⟩ = some v0 ∧ W.cell? ⟨b + 1, 0, none⟩ = some v1 ∧ W.cell? ⟨b + 1 + 1, 0, none⟩ = some v2 ∧ Below w.heap.size w W ∧ b + 3 ≤ W.heap.size) :
    W'.cell? ⟨b, 0, none⟩ = some v0 ∧ W'.cell? ⟨b + 1, 0, none⟩ = some v1 ∧ W'.cell? ⟨b + 1 + 1, 0, none⟩ = some v2 ∧ Below w.heap.size w W' ∧ b + 3 ≤ W'.heap.size := by
  obtain ⟨h0, h1, h2, h3, h4⟩ := h
  have hs := hb.out.size
  exact ⟨(hb.out.cell (by simp; omega)).trans h0, (hb.out.cell (by simp; omega)).trans h1, (hb.out.cell (by simp; omega)).trans h2, h3.trans (hb.out.mono h3.size), by omega⟩
theorem start4 {w wa : World} {v0 v1 v2 : Value} {t : TypeId} (h : Hid (Below w.heap.size w wa)) :
    (((wa.alloc (.cells #[v0] t)).alloc (.cells #[v1] t)).alloc (.cells #[v2] t)).cell? ⟨wa.heap.size, 0, none⟩ = some v0 ∧
    (((wa.alloc (.cells #[v0] t)).alloc (.cells #[v1] t)).alloc (.cells #[v2] t)).cell? ⟨wa.heap.size + 1, 0, none⟩ = some v1 ∧
    (((wa.alloc (.cells #[v0] t)).alloc (.cells #[v1] t)).alloc (.cells #[v2] t)).cell? ⟨wa.heap.size + 1 + 1, 0, none⟩ = some v2 ∧
    Below w.heap.size w (((wa.alloc (.cells #[v0] t)).alloc (.cells #[v1] t)).alloc (.cells #[v2] t)) ∧ wa.heap.size + 3 ≤ (((wa.alloc (.cells #[v0] t)).alloc (.cells #[v1] t)).alloc (.cells #[v2] t)).heap.size := by
  have b1 : (wa.alloc (.cells #[v0] t)).heap[wa.heap.size]? = some (.cells #[v0] t (0, 0)) := heap_alloc_new wa _
  have b2 : ((wa.alloc (.cells #[v0] t)).alloc (.cells #[v1] t)).heap[wa.heap.size + 1]? = some (.cells #[v1] t (0, 0)) := by simpa using heap_alloc_new (wa.alloc (.cells #[v0] t)) (.cells #[v1] t)
  have b3 : (((wa.alloc (.cells #[v0] t)).alloc (.cells #[v1] t)).alloc (.cells #[v2] t)).heap[wa.heap.size + 1 + 1]? = some (.cells #[v2] t (0, 0)) := by simpa using heap_alloc_new ((wa.alloc (.cells #[v0] t)).alloc (.cells #[v1] t)) (.cells #[v2] t)
  have c1 : (((wa.alloc (.cells #[v0] t)).alloc (.cells #[v1] t)).alloc (.cells #[v2] t)).heap[wa.heap.size]? = some (.cells #[v0] t (0, 0)) :=
    (Below.heap_alloc _ _ _ (by simp; omega)).trans ((Below.heap_alloc _ _ _ (by simp)).trans b1)
  have c2 : (((wa.alloc (.cells #[v0] t)).alloc (.cells #[v1] t)).alloc (.cells #[v2] t)).heap[wa.heap.size + 1]? = some (.cells #[v1] t (0, 0)) := (Below.heap_alloc _ _ _ (by simp)).trans b2
  have hs := h.out.size
  exact ⟨(one_cell c1).1, (one_cell c2).1, (one_cell b3).1, ((h.out.alloc hs _).alloc (by simp; omega) _).alloc (by simp; omega) _, by simp⟩
theorem drew4 {w W : World} {b : Nat} {v0 v1 v2 : Value}
    (h : W.cell? ⟨b, 0, none⟩ = some v0 ∧ W.cell? ⟨b + 1, 0, none⟩ = some v1 ∧ W.cell? ⟨b + 1 + 1, 0, none⟩ = some v2 ∧ Below w.heap.size w W ∧ b + 3 ≤ W.heap.size) :
    W.drew.cell? ⟨b, 0, none⟩ = some v0 ∧ W.drew.cell? ⟨b + 1, 0, none⟩ = some v1 ∧ W.drew.cell? ⟨b + 1 + 1, 0, none⟩ = some v2 ∧ Below w.heap.size w W.drew ∧ b + 3 ≤ W.drew.heap.size :=
  ⟨h.1, h.2.1, h.2.2.1, h.2.2.2.1.drew, h.2.2.2.2⟩
theorem alloc4 {w W : World} {b : Nat} {v0 v1 v2 : Value} (o : Obj)
    (h : W.cell? ⟨b, 0, none⟩ = some v0 ∧ W.cell? ⟨b + 1, 0, none⟩ = some v1 ∧ W.cell? ⟨b + 1 + 1, 0, none⟩ = some v2 ∧ Below w.heap.size w W ∧ b + 3 ≤ W.heap.size) :
    (W.alloc o).cell? ⟨b, 0, none⟩ = some v0 ∧ (W.alloc o).cell? ⟨b + 1, 0, none⟩ = some v1 ∧ (W.alloc o).cell? ⟨b + 1 + 1, 0, none⟩ = some v2 ∧ Below w.heap.size w (W.alloc o) ∧ b + 3 ≤ (W.alloc o).heap.size := by
  have hb : Hid (Below W.heap.size W (W.alloc o)) := (Below.refl _ _).alloc (Nat.le_refl _) _
  exact keep4 hb h
theorem below4 {w W : World} {b : Nat} {v0 v1 v2 : Option Value} {a0 a1 a2 : Addr} (h : W.cell? a0 = v0 ∧ W.cell? a1 = v1 ∧ W.cell? a2 = v2 ∧ Below w.heap.size w W ∧ b ≤ W.heap.size) : Below w.heap.size w W := h.2.2.2.1
theorem cmpI_bd (a b : Nat) : -1 ≤ cmpI a b ∧ cmpI a b ≤ 1 := by
  rcases Nat.lt_trichotomy a b with h | h | h
  · rw [cmpI_lt h]; omega
  · rw [cmpI_eq h]; omega
  · rw [cmpI_gt h]; omega
theorem cmpI_le {a b : Nat} : cmpI a b ≤ 0 ↔ a ≤ b := by
  rcases Nat.lt_trichotomy a b with h | h | h
  · rw [cmpI_lt h]; omega
  · rw [cmpI_eq h]; omega
  · rw [cmpI_gt h]; omega
theorem cmpI_neg (a b : Nat) : cmpI a b = -cmpI b a := by
  rcases Nat.lt_trichotomy a b with h | h | h
  · rw [cmpI_lt h, cmpI_gt h]
  · rw [cmpI_eq h, cmpI_eq h.symm]; rfl
  · rw [cmpI_gt h, cmpI_lt h]; rfl
/-- A number that came in, in every later world. -/
def Later (w : World) (A : Option Addr) (l c m : Nat) : Prop := ∀ W, Below w.heap.size w W → Arg W W.heap.size A l c m
theorem later_of {w : World} {A : Option Addr} {l c : Nat} {z : List Nat} (h : l = z.length ∧ l ≤ c ∧ Rd U32 w w.heap.size A z ∧ Good32 z) (hl : l ≤ 100000) : Later w A l c (val W32 z) := fun _ hb =>
  ⟨z, h.1, h.2.1, hl, (h.2.2.1.below hb).more hb.size, h.2.2.2, rfl⟩
def IntPost (W : World) (v : Int) (e : Ending) (w' : World) : Prop := e = .returned (.int .i64 v) ∧ Hid (Below W.heap.size W w')
theorem cmp_later {w W : World} {A A' : Option Addr} {l l' c c' m m' : Nat} {v : Int} (h : Later w A l c m) (h' : Later w A' l' c' m') (hv : cmpI m m' = v) (hb : Below w.heap.size w W) :
    Calls Tryd.prog 23 #[.agg #[.slice A l c], .agg #[.slice A' l' c']] W (IntPost W v) := by
  subst hv
  exact (Cmp_any (h W hb) (h' W hb)).mono fun _ _ h => h
theorem sub_later {w W : World} {A A' : Option Addr} {l l' c c' m m' : Nat} {b : Bool} (h : Later w A l c m) (h' : Later w A' l' c' m') (hv : decide (m' ≤ m) = b) (hb : Below w.heap.size w W) :
    Calls Tryd.prog 13 #[.agg #[.slice A l c], .agg #[.slice A' l' c']] W fun e w' => ∃ A2 l2 c2, e = .returned (.tuple #[.agg #[.slice A2 l2 c2], .bool b]) ∧ Hid (Below W.heap.size W w') := by
  subst hv
  refine (Sub_any (h W hb) (h' W hb)).mono fun e w' h => ?_
  unfold SubPost at h
  split at h
  · rename_i hh
    obtain ⟨A2, c2, he, _, hb⟩ := h
    exact ⟨A2, _, c2, by rw [he, decide_eq_true hh], hb⟩
  · rename_i hh
    exact ⟨none, 0, 0, by rw [h.1, decide_eq_false hh], h.2⟩
theorem add_later {w W : World} {A A' : Option Addr} {l l' c c' m m' : Nat} (h : Later w A l c m) (h' : Later w A' l' c' m') (hb : Below w.heap.size w W) :
    Calls Tryd.prog 28 #[.agg #[.slice A l c], .agg #[.slice A' l' c']] W fun e w' => ∃ A2 c2, e = .returned (.agg #[.slice A2 (dl (m + m')) c2]) ∧ Hid (Can w' w'.heap.size A2 c2 (m + m')) ∧ Hid (Below W.heap.size W w') :=
  (Add_any (h W hb) (h' W hb)).mono fun _ _ h => h
theorem val_lt24 {z : List Nat} {l : Nat} (hg : Good32 z) (hl : l = z.length) (h : l ≤ 24) : val W32 z < W32 ^ 24 :=
  Nat.lt_of_lt_of_le (val_lt z hg) (Nat.pow_le_pow_right (by decide) (by omega))
end Go.Proofs.YtfknclimoihfdaaDoor
end

section
/- Gcd of any two numbers. Conditions: less than 100000 words. -/
open Go.RowKit
set_option maxRecDepth 100000
namespace Go.Proofs.YtfknclimoihfdaaDoor
/-- What a call leaves that returns a number, hidden. -/
def NumH2 (w : World) (v : Nat) (e : Ending) (w' : World) : Prop := ∃ A c, e = .returned (.agg #[.slice A (dl v) c]) ∧ Hid (Can w' w'.heap.size A c v) ∧ Hid (Below w.heap.size w w')
theorem gcd_step (X Y : Nat) : Nat.gcd Y (X % Y) = Nat.gcd X Y := by
  rw [Nat.gcd_comm X Y, Nat.gcd_rec Y X, Nat.gcd_comm]
theorem keep5 {w W W' : World} {b : Nat} {v0 v1 v2 : Value} (hb : Hid (Below W.heap.size W W'))
    (h : W.cell? ⟨b, 0, none⟩ = some v0 ∧ W.cell? ⟨b + 1, 0, none⟩ = some v1 ∧ W.cell? ⟨b + 1 + 1, 0, none⟩ = some v2 ∧ W.frozen? ⟨b + 1 + 1, 0, none⟩ = false ∧ Below w.heap.size w W ∧ b + 3 ≤ W.heap.size) :
    W'.cell? ⟨b, 0, none⟩ = some v0 ∧ W'.cell? ⟨b + 1, 0, none⟩ = some v1 ∧ W'.cell? ⟨b + 1 + 1, 0, none⟩ = some v2 ∧ W'.frozen? ⟨b + 1 + 1, 0, none⟩ = false ∧ Below w.heap.size w W' ∧ b + 3 ≤ W'.heap.size := by
  obtain ⟨h0, h1, h2, hf, h3, h4⟩ := h
  have hs := hb.out.size
  exact ⟨(hb.out.cell (by simp; omega)).trans h0, (hb.out.cell (by simp; omega)).trans h1, (hb.out.cell (by simp; omega)).trans h2, (hb.out.frozen (by simp; omega)).trans hf, h3.trans (hb.out.mono h3.size), by omega⟩
theorem start5 {w wa : World} {v0 v1 v2 : Value} {t : TypeId} (h : Hid (Below w.heap.size w wa)) :
    (((wa.alloc (.cells #[v0] t)).alloc (.cells #[v1] t)).alloc (.cells #[v2] t)).drew.cell? ⟨wa.heap.size, 0, none⟩ = some v0 ∧
    (((wa.alloc (.cells #[v0] t)).alloc (.cells #[v1] t)).alloc (.cells #[v2] t)).drew.cell? ⟨wa.heap.size + 1, 0, none⟩ = some v1 ∧
    (((wa.alloc (.cells #[v0] t)).alloc (.cells #[v1] t)).alloc (.cells #[v2] t)).drew.cell? ⟨wa.heap.size + 1 + 1, 0, none⟩ = some v2 ∧
    (((wa.alloc (.cells #[v0] t)).alloc (.cells #[v1] t)).alloc (.cells #[v2] t)).drew.frozen? ⟨wa.heap.size + 1 + 1, 0, none⟩ = false ∧
    Below w.heap.size w (((wa.alloc (.cells #[v0] t)).alloc (.cells #[v1] t)).alloc (.cells #[v2] t)).drew ∧ wa.heap.size + 3 ≤ (((wa.alloc (.cells #[v0] t)).alloc (.cells #[v1] t)).alloc (.cells #[v2] t)).drew.heap.size := by
  obtain ⟨a0, a1, a2, a3, a4⟩ := drew4 (start4 (v0 := v0) (v1 := v1) (v2 := v2) (t := t) h)
  have b3 : (((wa.alloc (.cells #[v0] t)).alloc (.cells #[v1] t)).alloc (.cells #[v2] t)).heap[wa.heap.size + 1 + 1]? = some (.cells #[v2] t (0, 0)) := by simpa using heap_alloc_new ((wa.alloc (.cells #[v0] t)).alloc (.cells #[v1] t)) (.cells #[v2] t)
  exact ⟨a0, a1, a2, (one_cell b3).2, a3, a4⟩
theorem below5 {w W : World} {b : Nat} {f : Prop} {v0 v1 v2 : Option Value} {a0 a1 a2 : Addr} (h : W.cell? a0 = v0 ∧ W.cell? a1 = v1 ∧ W.cell? a2 = v2 ∧ f ∧ Below w.heap.size w W ∧ b ≤ W.heap.size) : Below w.heap.size w W := h.2.2.2.2.1
theorem box3 (w : World) (o1 o2 : Obj) (v : Value) (t : TypeId) : ((w.alloc o1).alloc o2).alloc (.cells #[v] t) = ((((w.alloc o1).alloc o2).alloc (.cells #[v] t)).drewN 0) := rfl
set_option maxHeartbeats 4000000 in
theorem Gcd_any {A A' : Option Addr} {n n' c c' m m' : Nat} {w : World} (h : Arg w w.heap.size A n c m) (h' : Arg w w.heap.size A' n' c' m') (hl : dl m ≤ 99999) (hl' : dl m' ≤ 99999) :
    Calls Tryd.prog 20 #[.agg #[.slice A n c], .agg #[.slice A' n' c']] w (NumH2 w (Nat.gcd m m')) := by
  have H : Hid (∀ W, Below w.heap.size w W → Arg W W.heap.size A n c m) := fun W hb => (h.below hb).more hb.size
  have H' : Hid (∀ W, Below w.heap.size w W → Arg W W.heap.size A' n' c' m') := fun W hb => (h'.below hb).more hb.size
  have CF : Hid (∀ W, Below w.heap.size w W → Calls Tryd.prog 71 #[.slice A (dl m) c] W (NewCan W m)) := fun W hb => fresh_can (H.out W hb).digs.1.2 (by omega)
  have CF' : Hid (∀ W, Below w.heap.size w W → Calls Tryd.prog 71 #[.slice A' (dl m') c'] W (NewCan W m')) := fun W hb => fresh_can (H'.out W hb).digs.1.2 (by omega)
  have HL := hide hl
  have HL' := hide hl'
  clear h h' hl hl'
  go_enter Tryd.func20, Tryd.ntmps20
  go_wp2_with fail
  have HR0 : Hid (Below w.heap.size w w) := Below.refl _ _
  go_region_held3 (fun w' => w'.cell? ⟨w.heap.size, 0, none⟩ = some (.slice A n c) ∧ w'.cell? ⟨w.heap.size + 1, 0, none⟩ = some (.slice A' n' c') ∧ w'.cell? ⟨w.heap.size + 1 + 1, 0, none⟩ = some (.slice none 0 0) ∧ w'.frozen? ⟨w.heap.size + 1 + 1, 0, none⟩ = false ∧ Below w.heap.size w w' ∧ w.heap.size + 3 ≤ w'.heap.size)
    (first | exact start5 HR0 | exact keep5 hbk (by assumption) | assumption)
    (first | (go_at_call 69; (with_reducible refine (trim_arg (H.out _ (below5 (by assumption)))).mono ?_); rintro e w' ⟨rfl, rfl⟩) | (go_at_call 69; (with_reducible refine (trim_arg (H'.out _ (below5 (by assumption)))).mono ?_); rintro e w' ⟨rfl, rfl⟩) | (go_at_call 71; (with_reducible refine (CF.out _ (below5 (by assumption))).mono ?_); rintro e w1 ⟨g1, rfl, hg1, hb1, hbk⟩) | (go_at_call 71; (with_reducible refine (CF'.out _ (below5 (by assumption))).mono ?_); rintro e w2 ⟨g2, rfl, hg2, hb2, hbk⟩; have hb1 := hide (hb1.out.below hbk.out hb1.out.lt)))
  have hS := ‹w2.cell? ⟨w.heap.size, 0, none⟩ = some (.slice A n c) ∧ _›
  have HS := hide hS
  have HC1 := hide (can_own hb1.out (show dl m = (digs W32 m).length from rfl) (good_digs m) (Nat.le_refl _) (val_digs32 m))
  have HC2 := hide (can_own hb2.out (show dl m' = (digs W32 m').length from rfl) (good_digs m') (Nat.le_refl _) (val_digs32 m'))
  clear hS hbk hb1 hb2 hg1 hg2
  go_wp2_with fail
  have HG2 : Hid (w.heap.size + 3 ≤ w2.heap.size) := HS.out.2.2.2.2.2
  go_loopg [5, 6] m' (fun K xv yv wr => ∃ (X Y : Nat) (A1 A2 : Option Addr) (c1 c2 : Nat), Hid (Y ≤ K) ∧ xv = .slice A1 (dl X) c1 ∧ yv = .slice A2 (dl Y) c2 ∧ Hid (Can wr wr.heap.size A1 c1 X) ∧ Hid (Can wr wr.heap.size A2 c2 Y) ∧ Hid (Nat.gcd X Y = Nat.gcd m m') ∧ Hid (dl X ≤ 99999 ∧ dl Y ≤ 99999) ∧ Hid (Below (w.heap.size + 3) w2 wr))
  case atStart => exact ⟨m, m', _, _, _, _, Nat.le_refl _, rfl, rfl, HC1, HC2, rfl, ⟨HL.out, HL'.out⟩, Below.refl _ _⟩
  case round =>
    obtain ⟨X, Y, A1, A2, c1, c2, hK, rfl, rfl, hX, hY, hg, hd, hbl⟩ := hrel
    have hcr : wr.cell? ⟨w.heap.size + 1 + 1, 0, none⟩ = some (.slice none 0 0) := (hbl.out.cell (by show w.heap.size + 1 + 1 < _; omega)).trans HS.out.2.2.1
    have hfr : wr.frozen? ⟨w.heap.size + 1 + 1, 0, none⟩ = false := (hbl.out.frozen (by show w.heap.size + 1 + 1 < _; omega)).trans HS.out.2.2.2.1
    by_cases h0 : Y = 0
    · have hy0 : dl Y = 0 := by rw [h0]; exact dl0
      have HG : Hid (Nat.gcd m m' = X) := by unfold Hid; rw [← hg.out, h0, Nat.gcd_zero_right]
      clear h0
      go_wp2_with fail
      refine bodyPost_ret (v := .agg #[.slice A1 (dl X) c1]) (by simp [results, Tryd.results20, go_sem, hcr]) rfl ?_
      refine ⟨A1, c1, by rw [HG.out], ?_, ((below5 HS.out).trans (hbl.out.mono (by omega))).setCell (by simp; omega) _⟩
      rw [HG.out]
      refine ⟨hX.out.1, ?_⟩
      have h1 := Rd.setBox hX.out.2 hcr (.slice A1 (dl X) c1)
      simpa [World.setCell] using h1
    · have hy0 : 0 < dl Y := by
        rcases Nat.eq_zero_or_pos (dl Y) with h | h
        · exact absurd (dl_zero h) h0
        · exact h
      have CD : Hid (Calls Tryd.prog 14 #[.agg #[.slice A1 (dl X) c1], .agg #[.slice A2 (dl Y) c2]] wr (DivPost wr X Y)) := by
        have h1 := hd.out
        exact Div_any (hX.out.arg (by omega)) (hY.out.arg (by omega)) (by omega) h1.1
      have H0 := hide h0
      clear h0
      go_wp2_with (go_at_call 14; (with_reducible refine CD.out.mono ?_); rintro e w4 ⟨A3, c3, A4, c4, rfl, hq, hr, hb4⟩)
      go_quiet (fail)
      go_wp2
      go_roundg (X % Y)
      case measure => exact Nat.lt_of_lt_of_le (Nat.mod_lt _ (Nat.pos_of_ne_zero H0.out)) hK.out
      case rel =>
        have hbs : Below w4.heap.size w4 ((w4.alloc (.cells #[.slice A3 (dl (X / Y)) c3] 25)).alloc (.cells #[.slice A4 (dl (X % Y)) c4] 25)) := ((Below.refl _ _).alloc (Nat.le_refl _) _).alloc (by simp) _
        refine ⟨Y, X % Y, A2, A4, c2, c4, Nat.le_refl _, rfl, rfl, ?_, ?_, ?_, ⟨hd.out.2, Nat.le_trans (digs_len_mono (by decide) (Nat.mod_le _ _)) hd.out.1⟩, ?_⟩
        · exact (((hY.out.below hb4.out).more hb4.out.size).below hbs).more hbs.size
        · exact (hr.out.below hbs).more hbs.size
        · unfold Hid; rw [gcd_step]; exact hg.out
        · exact below_drewN (hbl.out.trans ((hb4.out.trans (hbs.mono hb4.out.size)).mono (Nat.le_trans HG2.out hbl.out.size))) _
end Go.Proofs.YtfknclimoihfdaaDoor
end
