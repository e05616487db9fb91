/- Several texts in one, each with its own sentence and conditions. -/
import Derived.Test.YtmiklffjffdkgaaGreatDoorGRwbc8
import Derived.Deep.RegionHeld3
import Derived.Deep.LoopGhost
import Derived.Test.YtmiklffjffdkgaaGreatDoorGRwbc1
section
/- Sub: the difference. Conditions: at most 100000 words each. -/
open Go.RowKit
set_option maxRecDepth 100000
namespace Go.Proofs.YtmiklffjffdkgaaGreatDoor
/-- What Sub leaves. -/
def SubPost (w : World) (m m' : Nat) (e : Ending) (w' : World) : Prop :=
  if m' ≤ m then ∃ A c, e = .returned (.tuple #[.agg #[.slice A (dl (m - m')) c], .bool true]) ∧ Can w' w'.heap.size A c (m - m') ∧ Below w.heap.size w w'
  else e = .returned (.tuple #[.agg #[.slice none 0 0], .bool false]) ∧ Below w.heap.size w w'
set_option maxHeartbeats 2000000 in
theorem Sub_any {A A' : Option Addr} {n n' c c' m m' : Nat} {w : World} (h : Arg w w.heap.size A n c m) (h' : Arg w w.heap.size A' n' c' m') :
    Calls Tryz.prog 95 #[.agg #[.slice A n c], .agg #[.slice A' n' c']] w (SubPost w m m') := by
  have H : Hid (∀ o1 o2 v t k, Arg ((((w.alloc o1).alloc o2).alloc (.cells #[v] t)).drewN k) w.heap.size A n c m) := fun o1 o2 v t k => h.below (pre3 w o1 o2 v t k).1
  have H' : Hid (∀ o1 o2 v t k, Arg ((((w.alloc o1).alloc o2).alloc (.cells #[v] t)).drewN k) w.heap.size A' n' c' m') := fun o1 o2 v t k => h'.below (pre3 w o1 o2 v t k).1
  have hl : dl m ≤ 100000 := by have := h.digs.2; obtain ⟨_, _, _, h3, _⟩ := h; omega
  have hl' : dl m' ≤ 100000 := by have := h'.digs.2; obtain ⟨_, _, _, h3, _⟩ := h'; omega
  have HX := hide h.digs.1
  have HY := hide h'.digs.1
  clear h h'
  by_cases hmm : m' ≤ m
  · have HM := hide hmm
    have hcm : ¬ cmpI m m' < 0 := by unfold cmpI; rw [if_neg (by omega)]; split <;> omega
    clear hmm
    go_enter Tryz.func95, Tryz.ntmps95
    go_wp2_with fail
    go_quiet ((go_at_call 75; first | exact quiet_left (trim_arg (H.out _ _ _ _ _)) | exact quiet_left (trim_arg (H'.out _ _ _ _ _))))
    go_wp2_with (first | (go_at_call 74; go_must (refine (compare_can (H.out _ _ _ _ _).digs.1 (H'.out _ _ _ _ _).digs.1 hl hl').mono ?_); rintro e w' ⟨rfl, q, rfl⟩) | (at_make; go_must (refine wpList_words rfl _ _ rfl (dl m) rfl rfl (by omega) ?_; intro g w1 hg hb1 hbel)))
    have HG : Hid (g = w.heap.size + 3) := by unfold Hid; rw [hg.out]; exact (pre3 w _ _ _ _ _).2.1
    have hB : w.heap.size ≤ g := by have := HG.out; omega
    obtain ⟨hw1, hres, hsz1⟩ := after3 hbel
    have HRES := hide hres
    have HW1 := hide hw1
    have hlm : dl m' ≤ dl m := digs_len_mono (by decide) HM.out
    clear hbel hres hg hw1 H H' hcm
    go_loopw [9, 30] (fun cv iv wr => ∃ i cr : Nat, ∃ seg : List Nat, i ≤ dl m ∧ cr ≤ 1 ∧ cv = .int .u64 (cr : Int) ∧ iv = .int .i64 (i : Int) ∧ Hid (seg.length = i) ∧ Hid (Good32 seg) ∧ Hid (val W32 seg + val W32 ((digs W32 m').take i) = val W32 ((digs W32 m).take i) + W32 ^ i * cr) ∧
        Hid (Blk U32 92 wr g (seg ++ List.replicate (dl m - i) 0)) ∧ Hid (w1.grownBy wr (some g)))
      (fun _ iv _ => dl m - (intOf iv).toNat)
    case atStart => exact ⟨0, 0, [], Nat.zero_le _, by omega, rfl, rfl, rfl, by intro x hx; simp at hx, by simp [Hid, val], hb1, World.grownBy.refl _ _⟩
    case round =>
      obtain ⟨i, cr, seg, hi, hcr, rfl, rfl, hsl, hsg, hval, hblk, hgr⟩ := hrel
      by_cases hlt : i < dl m
      · have hix : i < (digs W32 m).length := hlt
        have HXR := hide ((HX.out.below HW1.out).2.grown hgr.out hB)
        have HYR := hide ((HY.out.below HW1.out).2.grown hgr.out hB)
        obtain ⟨ad, rfl, hab, hcx⟩ := HXR.out.at_ hix
        obtain ⟨x, hxe⟩ : ∃ x, x = (digs W32 m)[i] := ⟨_, rfl⟩
        rw [← hxe] at hcx
        have RX := hide (val_take_succ W32 (L := digs W32 m) (i := i) (x := x) (by rw [hxe]; exact List.getElem?_eq_getElem hix))
        have hxW : x ≤ 4294967295 := word_le (by rw [hxe]; exact good_digs m _ (List.getElem_mem _))
        obtain ⟨z, hz⟩ : ∃ z, dl m - i = z + 1 := ⟨dl m - i - 1, by omega⟩
        rw [hz] at hblk
        have HZ := hide hz
        have hcs : wr.cell? ⟨g, i, none⟩ = some (.int .u32 0) := hblk.out.cell (get_zeros hsl.out)
        have hfz := hblk.out.frozen i
        unfold U32 at hcx
        clear hxe hix hz
        have fin : ∀ (r q t y : Nat) (vy : Hid (val W32 ((digs W32 m').take (i + 1)) = val W32 ((digs W32 m').take i) + W32 ^ i * y)) (ht : t = cr + y) (hr : r < W32) (hq : q ≤ 1) (he : r + t = x + W32 * q), 
            Hid (val W32 (seg ++ [r]) + val W32 ((digs W32 m').take (i + 1)) = val W32 ((digs W32 m).take (i + 1)) + W32 ^ (i + 1) * q) ∧ Hid (Good32 (seg ++ [r])) ∧ Hid ((seg ++ [r]).length = i + 1) ∧
            Hid (Blk U32 92 (wr.setCell ⟨g, i, none⟩ (.int .u32 (r : Int))) g ((seg ++ [r]) ++ List.replicate (dl m - (i + 1)) 0)) ∧ Hid (w1.grownBy (wr.setCell ⟨g, i, none⟩ (.int .u32 (r : Int))) (some g)) := by
          intro r q t y vy ht hr hq he
          refine ⟨?_, good_snoc hsg.out hr, by unfold Hid; simp [hsl.out], ?_, grown_set hgr.out _ _⟩
          · unfold Hid
            rw [val_snoc, hsl.out, vy.out, RX.out, Nat.pow_succ]
            exact sub_math hval.out ht he
          · have hb : Blk U32 92 (wr.setCell ⟨g, i, none⟩ (.int .u32 (r : Int))) g _ := hblk.out.set_ i r
            rw [set_zeros hsl.out] at hb
            rw [show dl m - (i + 1) = z by have := HZ.out; omega]
            exact hb
        have FIN := hide fin
        clear fin
        by_cases hs : i < dl m'
        · have hiy : i < (digs W32 m').length := hs
          obtain ⟨ad', rfl, hab', hcy⟩ := HYR.out.at_ hiy
          obtain ⟨y, hye⟩ : ∃ x, x = (digs W32 m')[i] := ⟨_, rfl⟩
          rw [← hye] at hcy
          have RY := hide (val_take_succ W32 (L := digs W32 m') (i := i) (x := y) (by rw [hye]; exact List.getElem?_eq_getElem hiy))
          have hyW : y ≤ 4294967295 := word_le (by rw [hye]; exact good_digs m' _ (List.getElem_mem _))
          unfold U32 at hcy
          clear hye hiy
          by_cases hxt : cr + y ≤ x
          · go_wp2
            go_roundw
            case rel =>
              have e1 : ((x : Int) - ((cr : Int) + (y : Int))) / 9223372036854775808 = ((0 : Nat) : Int) := by omega
              have e2 : ((x : Int) - ((cr : Int) + (y : Int))) = ((x - (cr + y) : Nat) : Int) := by omega
              obtain ⟨f1, f2, f3, f4, f5⟩ := FIN.out (x - (cr + y)) 0 (cr + y) y RY rfl (by rw [W32_eq]; omega) (by omega) (by omega)
              rw [e1, e2]
              exact ⟨i + 1, 0, seg ++ [x - (cr + y)], by omega, by omega, rfl, by go_num, f3, f2, f1, f4, f5⟩
            case measure => simp [intOf]; omega
          · go_wp2
            go_roundw
            case rel =>
              obtain ⟨e2, e1⟩ := sub_wrap (x := x) (t := cr + y) (by rw [W32_eq]; omega) (by rw [W32_eq]; omega) (by omega)
              rw [Int.natCast_add] at e1 e2
              obtain ⟨f1, f2, f3, f4, f5⟩ := FIN.out (W32 + x - (cr + y)) 1 (cr + y) y RY rfl (by rw [W32_eq]; omega) (by omega) (by rw [W32_eq]; omega)
              rw [e1, e2]
              exact ⟨i + 1, 1, seg ++ [W32 + x - (cr + y)], by omega, by omega, rfl, by go_num, f3, f2, f1, f4, f5⟩
            case measure => simp [intOf]; omega
        · have RY : Hid (val W32 ((digs W32 m').take (i + 1)) = val W32 ((digs W32 m').take i) + W32 ^ i * 0) := val_take_more W32 (L := digs W32 m') (i := i) (show dl m' ≤ i by omega)
          by_cases hxt : cr ≤ x
          · go_wp2
            go_roundw
            case rel =>
              have e1 : ((x : Int) - (cr : Int)) / 9223372036854775808 = ((0 : Nat) : Int) := by omega
              have e2 : ((x : Int) - (cr : Int)) = ((x - cr : Nat) : Int) := by omega
              obtain ⟨f1, f2, f3, f4, f5⟩ := FIN.out (x - cr) 0 cr 0 RY rfl (by rw [W32_eq]; omega) (by omega) (by omega)
              rw [e1, e2]
              exact ⟨i + 1, 0, seg ++ [x - cr], by omega, by omega, rfl, by go_num, f3, f2, f1, f4, f5⟩
            case measure => simp [intOf]; omega
          · go_wp2
            go_roundw
            case rel =>
              obtain ⟨e2, e1⟩ := sub_wrap (x := x) (t := cr) (by rw [W32_eq]; omega) (by rw [W32_eq]; omega) (by omega)
              obtain ⟨f1, f2, f3, f4, f5⟩ := FIN.out (W32 + x - cr) 1 cr 0 RY rfl (by rw [W32_eq]; omega) (by omega) (by rw [W32_eq]; omega)
              rw [e1, e2]
              exact ⟨i + 1, 1, seg ++ [W32 + x - cr], by omega, by omega, rfl, by go_num, f3, f2, f1, f4, f5⟩
            case measure => simp [intOf]; omega
      · obtain rfl : i = dl m := by omega
        obtain ⟨hr3, hr4⟩ := one_cell ((hgr.out.block _ (by omega) (by intro e; injection e with e; have := HG.out; omega)).trans HRES.out)
        have hlz : seg ++ List.replicate (dl m - dl m) 0 = seg := by simp
        rw [hlz] at hblk
        have HV : Hid (val W32 seg = m - m') := by
          unfold Hid
          have h1 := hval.out
          rw [List.take_of_length_le (show (digs W32 m).length ≤ dl m from Nat.le_refl _), List.take_of_length_le (show (digs W32 m').length ≤ dl m from hlm), val_digs32, val_digs32] at h1
          have h2 := val_lt seg hsg.out
          rw [hsl.out] at h2
          have h3 := HM.out
          have h4 : cr = 0 ∨ cr = 1 := by omega
          rcases h4 with rfl | rfl <;> omega
        clear hlz
        go_wp2_with (first | (go_at_call 75; go_must (refine (trim_own hblk.out hsl.out.symm hsg.out (by omega) (by omega) HV.out).mono ?_); rintro e w2 ⟨rfl, rfl⟩))
        refine bodyPost_ret (v := .tuple #[.agg #[.slice (some ⟨g, 0, none⟩) (dl (m - m')) (dl m)], .bool true]) (by simp [results, Tryz.results95, go_sem, hr3]) rfl ?_
        unfold SubPost
        rw [if_pos HM.out]
        exact ⟨_, _, rfl, can_own (hblk.out.far (p := ⟨w.heap.size + 1 + 1, 0, none⟩) (by have := HG.out; simp; omega) _) hsl.out.symm hsg.out (Nat.le_refl _) HV.out, (HW1.out.trans (grown_below hgr.out hB hb1.out.lt)).setCell (by simp; omega) _⟩
  · have HM := hide hmm
    have hcm : cmpI m m' < 0 := by rw [cmpI_lt (by omega)]; omega
    clear hmm
    go_enter Tryz.func95, Tryz.ntmps95
    go_wp2_with fail
    go_quiet ((go_at_call 75; first | exact quiet_left (trim_arg (H.out _ _ _ _ _)) | exact quiet_left (trim_arg (H'.out _ _ _ _ _))))
    go_wp2_with (first | (go_at_call 74; go_must (refine (compare_can (H.out _ _ _ _ _).digs.1 (H'.out _ _ _ _ _).digs.1 hl hl').mono ?_); rintro e w' ⟨rfl, q, rfl⟩))
    refine bodyPost_ret (v := .tuple #[.agg #[.slice none 0 0], .bool false]) (by simp [results, Tryz.results95, go_sem]) rfl ?_
    unfold SubPost
    rw [if_neg HM.out]
    refine ⟨rfl, ?_⟩
    exact (pre3 w _ _ _ _ _).1.setCell (by simp; omega) _
end Go.Proofs.YtmiklffjffdkgaaGreatDoor
end

section
/- Words for statements: arguments that tell numbers in every later world; cells of a statement's own variables kept through calls. No conditions. -/
open Go.RowKit
set_option maxRecDepth 100000
namespace Go.Proofs.YtmiklffjffdkgaaGreatDoor
theorem keep4 {w W W' : World} {b : Nat} {v0 v1 v2 : Value} (hb : Hid (Below W.heap.size W W'))
    (h : W.cell? ⟨b, 0, none⟩ = some v0 ∧ W.cell? ⟨b + 1, 0, none⟩ = some v1 ∧ W.cell? ⟨b + 1 + 1, 0, none⟩ = some v2 ∧ Below w.heap.size w W ∧ b + 3 ≤ W.heap.size) :
    W'.cell? ⟨b, 0, none⟩ = some v0 ∧ W'.cell? ⟨b + 1, 0, none⟩ = some v1 ∧ W'.cell? ⟨b + 1 + 1, 0, none⟩ = some v2 ∧ Below w.heap.size w W' ∧ b + 3 ≤ W'.heap.size := by
  obtain ⟨h0, h1, h2, h3, h4⟩ := h
  have hs := hb.out.size
  exact ⟨(hb.out.cell (by simp; omega)).trans h0, (hb.out.cell (by simp; omega)).trans h1, (hb.out.cell (by simp; omega)).trans h2, h3.trans (hb.out.mono h3.size), by omega⟩
theorem start4 {w wa : World} {v0 v1 v2 : Value} {t : TypeId} (h : Hid (Below w.heap.size w wa)) :
    (((wa.alloc (.cells #[v0] t)).alloc (.cells #[v1] t)).alloc (.cells #[v2] t)).cell? ⟨wa.heap.size, 0, none⟩ = some v0 ∧
    (((wa.alloc (.cells #[v0] t)).alloc (.cells #[v1] t)).alloc (.cells #[v2] t)).cell? ⟨wa.heap.size + 1, 0, none⟩ = some v1 ∧
    (((wa.alloc (.cells #[v0] t)).alloc (.cells #[v1] t)).alloc (.cells #[v2] t)).cell? ⟨wa.heap.size + 1 + 1, 0, none⟩ = some v2 ∧
    Below w.heap.size w (((wa.alloc (.cells #[v0] t)).alloc (.cells #[v1] t)).alloc (.cells #[v2] t)) ∧ wa.heap.size + 3 ≤ (((wa.alloc (.cells #[v0] t)).alloc (.cells #[v1] t)).alloc (.cells #[v2] t)).heap.size := by
  have b1 : (wa.alloc (.cells #[v0] t)).heap[wa.heap.size]? = some (.cells #[v0] t (0, 0)) := heap_alloc_new wa _
  have b2 : ((wa.alloc (.cells #[v0] t)).alloc (.cells #[v1] t)).heap[wa.heap.size + 1]? = some (.cells #[v1] t (0, 0)) := by simpa using heap_alloc_new (wa.alloc (.cells #[v0] t)) (.cells #[v1] t)
  have b3 : (((wa.alloc (.cells #[v0] t)).alloc (.cells #[v1] t)).alloc (.cells #[v2] t)).heap[wa.heap.size + 1 + 1]? = some (.cells #[v2] t (0, 0)) := by simpa using heap_alloc_new ((wa.alloc (.cells #[v0] t)).alloc (.cells #[v1] t)) (.cells #[v2] t)
  have c1 : (((wa.alloc (.cells #[v0] t)).alloc (.cells #[v1] t)).alloc (.cells #[v2] t)).heap[wa.heap.size]? = some (.cells #[v0] t (0, 0)) :=
    (Below.heap_alloc _ _ _ (by simp; omega)).trans ((Below.heap_alloc _ _ _ (by simp)).trans b1)
  have c2 : (((wa.alloc (.cells #[v0] t)).alloc (.cells #[v1] t)).alloc (.cells #[v2] t)).heap[wa.heap.size + 1]? = some (.cells #[v1] t (0, 0)) := (Below.heap_alloc _ _ _ (by simp)).trans b2
  have hs := h.out.size
  exact ⟨(one_cell c1).1, (one_cell c2).1, (one_cell b3).1, ((h.out.alloc hs _).alloc (by simp; omega) _).alloc (by simp; omega) _, by simp⟩
theorem drew4 {w W : World} {b : Nat} {v0 v1 v2 : Value}
    (h : W.cell? ⟨b, 0, none⟩ = some v0 ∧ W.cell? ⟨b + 1, 0, none⟩ = some v1 ∧ W.cell? ⟨b + 1 + 1, 0, none⟩ = some v2 ∧ Below w.heap.size w W ∧ b + 3 ≤ W.heap.size) :
    W.drew.cell? ⟨b, 0, none⟩ = some v0 ∧ W.drew.cell? ⟨b + 1, 0, none⟩ = some v1 ∧ W.drew.cell? ⟨b + 1 + 1, 0, none⟩ = some v2 ∧ Below w.heap.size w W.drew ∧ b + 3 ≤ W.drew.heap.size :=
  ⟨h.1, h.2.1, h.2.2.1, h.2.2.2.1.drew, h.2.2.2.2⟩
theorem alloc4 {w W : World} {b : Nat} {v0 v1 v2 : Value} (o : Obj)
    (h : W.cell? ⟨b, 0, none⟩ = some v0 ∧ W.cell? ⟨b + 1, 0, none⟩ = some v1 ∧ W.cell? ⟨b + 1 + 1, 0, none⟩ = some v2 ∧ Below w.heap.size w W ∧ b + 3 ≤ W.heap.size) :
    (W.alloc o).cell? ⟨b, 0, none⟩ = some v0 ∧ (W.alloc o).cell? ⟨b + 1, 0, none⟩ = some v1 ∧ (W.alloc o).cell? ⟨b + 1 + 1, 0, none⟩ = some v2 ∧ Below w.heap.size w (W.alloc o) ∧ b + 3 ≤ (W.alloc o).heap.size := by
  have hb : Hid (Below W.heap.size W (W.alloc o)) := (Below.refl _ _).alloc (Nat.le_refl _) _
  exact keep4 hb h
theorem below4 {w W : World} {b : Nat} {v0 v1 v2 : Option Value} {a0 a1 a2 : Addr} (h : W.cell? a0 = v0 ∧ W.cell? a1 = v1 ∧ W.cell? a2 = v2 ∧ Below w.heap.size w W ∧ b ≤ W.heap.size) : Below w.heap.size w W := h.2.2.2.1
theorem cmpI_bd (a b : Nat) : -1 ≤ cmpI a b ∧ cmpI a b ≤ 1 := by
  rcases Nat.lt_trichotomy a b with h | h | h
  · rw [cmpI_lt h]; omega
  · rw [cmpI_eq h]; omega
  · rw [cmpI_gt h]; omega
theorem cmpI_le {a b : Nat} : cmpI a b ≤ 0 ↔ a ≤ b := by
  rcases Nat.lt_trichotomy a b with h | h | h
  · rw [cmpI_lt h]; omega
  · rw [cmpI_eq h]; omega
  · rw [cmpI_gt h]; omega
theorem cmpI_neg (a b : Nat) : cmpI a b = -cmpI b a := by
  rcases Nat.lt_trichotomy a b with h | h | h
  · rw [cmpI_lt h, cmpI_gt h]
  · rw [cmpI_eq h, cmpI_eq h.symm]; rfl
  · rw [cmpI_gt h, cmpI_lt h]; rfl
/-- A number that came in, in every later world. -/
def Later (w : World) (A : Option Addr) (l c m : Nat) : Prop := ∀ W, Below w.heap.size w W → Arg W W.heap.size A l c m
theorem later_of {w : World} {A : Option Addr} {l c : Nat} {z : List Nat} (h : l = z.length ∧ l ≤ c ∧ Rd U32 w w.heap.size A z ∧ Good32 z) (hl : l ≤ 100000) : Later w A l c (val W32 z) := fun _ hb =>
  ⟨z, h.1, h.2.1, hl, (h.2.2.1.below hb).more hb.size, h.2.2.2, rfl⟩
def IntPost (W : World) (v : Int) (e : Ending) (w' : World) : Prop := e = .returned (.int .i64 v) ∧ Hid (Below W.heap.size W w')
theorem cmp_later {w W : World} {A A' : Option Addr} {l l' c c' m m' : Nat} {v : Int} (h : Later w A l c m) (h' : Later w A' l' c' m') (hv : cmpI m m' = v) (hb : Below w.heap.size w W) :
    Calls Tryz.prog 31 #[.agg #[.slice A l c], .agg #[.slice A' l' c']] W (IntPost W v) := by
  subst hv
  exact (Cmp_any (h W hb) (h' W hb)).mono fun _ _ h => h
theorem sub_later {w W : World} {A A' : Option Addr} {l l' c c' m m' : Nat} {b : Bool} (h : Later w A l c m) (h' : Later w A' l' c' m') (hv : decide (m' ≤ m) = b) (hb : Below w.heap.size w W) :
    Calls Tryz.prog 95 #[.agg #[.slice A l c], .agg #[.slice A' l' c']] W fun e w' => ∃ A2 l2 c2, e = .returned (.tuple #[.agg #[.slice A2 l2 c2], .bool b]) ∧ Hid (Below W.heap.size W w') := by
  subst hv
  refine (Sub_any (h W hb) (h' W hb)).mono fun e w' h => ?_
  unfold SubPost at h
  split at h
  · rename_i hh
    obtain ⟨A2, c2, he, _, hb⟩ := h
    exact ⟨A2, _, c2, by rw [he, decide_eq_true hh], hb⟩
  · rename_i hh
    exact ⟨none, 0, 0, by rw [h.1, decide_eq_false hh], h.2⟩
theorem add_later {w W : World} {A A' : Option Addr} {l l' c c' m m' : Nat} (h : Later w A l c m) (h' : Later w A' l' c' m') (hb : Below w.heap.size w W) :
    Calls Tryz.prog 94 #[.agg #[.slice A l c], .agg #[.slice A' l' c']] W fun e w' => ∃ A2 c2, e = .returned (.agg #[.slice A2 (dl (m + m')) c2]) ∧ Hid (Can w' w'.heap.size A2 c2 (m + m')) ∧ Hid (Below W.heap.size W w') :=
  (Add_any (h W hb) (h' W hb)).mono fun _ _ h => h
theorem val_lt24 {z : List Nat} {l : Nat} (hg : Good32 z) (hl : l = z.length) (h : l ≤ 24) : val W32 z < W32 ^ 24 :=
  Nat.lt_of_lt_of_le (val_lt z hg) (Nat.pow_le_pow_right (by decide) (by omega))
end Go.Proofs.YtmiklffjffdkgaaGreatDoor
end

section
/- Gcd of any two numbers. Conditions: less than 100000 words. -/
open Go.RowKit
set_option maxRecDepth 100000
namespace Go.Proofs.YtmiklffjffdkgaaGreatDoor
/-- What a call leaves that returns a number, hidden. -/
def NumH2 (w : World) (v : Nat) (e : Ending) (w' : World) : Prop := ∃ A c, e = .returned (.agg #[.slice A (dl v) c]) ∧ Hid (Can w' w'.heap.size A c v) ∧ Hid (Below w.heap.size w w')
theorem gcd_step (X Y : Nat) : Nat.gcd Y (X % Y) = Nat.gcd X Y := by
  rw [Nat.gcd_comm X Y, Nat.gcd_rec Y X, Nat.gcd_comm]
theorem keep5 {w W W' : World} {b : Nat} {v0 v1 v2 : Value} (hb : Hid (Below W.heap.size W W'))
    (h : W.cell? ⟨b, 0, none⟩ = some v0 ∧ W.cell? ⟨b + 1, 0, none⟩ = some v1 ∧ W.cell? ⟨b + 1 + 1, 0, none⟩ = some v2 ∧ W.frozen? ⟨b + 1 + 1, 0, none⟩ = false ∧ Below w.heap.size w W ∧ b + 3 ≤ W.heap.size) :
    W'.cell? ⟨b, 0, none⟩ = some v0 ∧ W'.cell? ⟨b + 1, 0, none⟩ = some v1 ∧ W'.cell? ⟨b + 1 + 1, 0, none⟩ = some v2 ∧ W'.frozen? ⟨b + 1 + 1, 0, none⟩ = false ∧ Below w.heap.size w W' ∧ b + 3 ≤ W'.heap.size := by
  obtain ⟨h0, h1, h2, hf, h3, h4⟩ := h
  have hs := hb.out.size
  exact ⟨(hb.out.cell (by simp; omega)).trans h0, (hb.out.cell (by simp; omega)).trans h1, (hb.out.cell (by simp; omega)).trans h2, (hb.out.frozen (by simp; omega)).trans hf, h3.trans (hb.out.mono h3.size), by omega⟩
theorem start5 {w wa : World} {v0 v1 v2 : Value} {t : TypeId} (h : Hid (Below w.heap.size w wa)) :
    (((wa.alloc (.cells #[v0] t)).alloc (.cells #[v1] t)).alloc (.cells #[v2] t)).drew.cell? ⟨wa.heap.size, 0, none⟩ = some v0 ∧
    (((wa.alloc (.cells #[v0] t)).alloc (.cells #[v1] t)).alloc (.cells #[v2] t)).drew.cell? ⟨wa.heap.size + 1, 0, none⟩ = some v1 ∧
    (((wa.alloc (.cells #[v0] t)).alloc (.cells #[v1] t)).alloc (.cells #[v2] t)).drew.cell? ⟨wa.heap.size + 1 + 1, 0, none⟩ = some v2 ∧
    (((wa.alloc (.cells #[v0] t)).alloc (.cells #[v1] t)).alloc (.cells #[v2] t)).drew.frozen? ⟨wa.heap.size + 1 + 1, 0, none⟩ = false ∧
    Below w.heap.size w (((wa.alloc (.cells #[v0] t)).alloc (.cells #[v1] t)).alloc (.cells #[v2] t)).drew ∧ wa.heap.size + 3 ≤ (((wa.alloc (.cells #[v0] t)).alloc (.cells #[v1] t)).alloc (.cells #[v2] t)).drew.heap.size := by
  obtain ⟨a0, a1, a2, a3, a4⟩ := drew4 (start4 (v0 := v0) (v1 := v1) (v2 := v2) (t := t) h)
  have b3 : (((wa.alloc (.cells #[v0] t)).alloc (.cells #[v1] t)).alloc (.cells #[v2] t)).heap[wa.heap.size + 1 + 1]? = some (.cells #[v2] t (0, 0)) := by simpa using heap_alloc_new ((wa.alloc (.cells #[v0] t)).alloc (.cells #[v1] t)) (.cells #[v2] t)
  exact ⟨a0, a1, a2, (one_cell b3).2, a3, a4⟩
theorem below5 {w W : World} {b : Nat} {f : Prop} {v0 v1 v2 : Option Value} {a0 a1 a2 : Addr} (h : W.cell? a0 = v0 ∧ W.cell? a1 = v1 ∧ W.cell? a2 = v2 ∧ f ∧ Below w.heap.size w W ∧ b ≤ W.heap.size) : Below w.heap.size w W := h.2.2.2.2.1
theorem box3 (w : World) (o1 o2 : Obj) (v : Value) (t : TypeId) : ((w.alloc o1).alloc o2).alloc (.cells #[v] t) = ((((w.alloc o1).alloc o2).alloc (.cells #[v] t)).drewN 0) := rfl
set_option maxHeartbeats 4000000 in
theorem Gcd_any {A A' : Option Addr} {n n' c c' m m' : Nat} {w : World} (h : Arg w w.heap.size A n c m) (h' : Arg w w.heap.size A' n' c' m') (hl : dl m ≤ 99999) (hl' : dl m' ≤ 99999) :
    Calls Tryz.prog 107 #[.agg #[.slice A n c], .agg #[.slice A' n' c']] w (NumH2 w (Nat.gcd m m')) := by
  have H : Hid (∀ W, Below w.heap.size w W → Arg W W.heap.size A n c m) := fun W hb => (h.below hb).more hb.size
  have H' : Hid (∀ W, Below w.heap.size w W → Arg W W.heap.size A' n' c' m') := fun W hb => (h'.below hb).more hb.size
  have CF : Hid (∀ W, Below w.heap.size w W → Calls Tryz.prog 89 #[.slice A (dl m) c] W (NewCan W m)) := fun W hb => fresh_can (H.out W hb).digs.1.2 (by omega)
  have CF' : Hid (∀ W, Below w.heap.size w W → Calls Tryz.prog 89 #[.slice A' (dl m') c'] W (NewCan W m')) := fun W hb => fresh_can (H'.out W hb).digs.1.2 (by omega)
  have HL := hide hl
  have HL' := hide hl'
  clear h h' hl hl'
  go_enter Tryz.func107, Tryz.ntmps107
  go_wp2_with fail
  have HR0 : Hid (Below w.heap.size w w) := Below.refl _ _
  go_region_held3 (fun w' => w'.cell? ⟨w.heap.size, 0, none⟩ = some (.slice A n c) ∧ w'.cell? ⟨w.heap.size + 1, 0, none⟩ = some (.slice A' n' c') ∧ w'.cell? ⟨w.heap.size + 1 + 1, 0, none⟩ = some (.slice none 0 0) ∧ w'.frozen? ⟨w.heap.size + 1 + 1, 0, none⟩ = false ∧ Below w.heap.size w w' ∧ w.heap.size + 3 ≤ w'.heap.size)
    (first | exact start5 HR0 | exact keep5 hbk (by assumption) | assumption)
    (first | (go_at_call 75; (with_reducible refine (trim_arg (H.out _ (below5 (by assumption)))).mono ?_); rintro e w' ⟨rfl, rfl⟩) | (go_at_call 75; (with_reducible refine (trim_arg (H'.out _ (below5 (by assumption)))).mono ?_); rintro e w' ⟨rfl, rfl⟩) | (go_at_call 89; (with_reducible refine (CF.out _ (below5 (by assumption))).mono ?_); rintro e w1 ⟨g1, rfl, hg1, hb1, hbk⟩) | (go_at_call 89; (with_reducible refine (CF'.out _ (below5 (by assumption))).mono ?_); rintro e w2 ⟨g2, rfl, hg2, hb2, hbk⟩; have hb1 := hide (hb1.out.below hbk.out hb1.out.lt)))
  have hS := ‹w2.cell? ⟨w.heap.size, 0, none⟩ = some (.slice A n c) ∧ _›
  have HS := hide hS
  have HC1 := hide (can_own hb1.out (show dl m = (digs W32 m).length from rfl) (good_digs m) (Nat.le_refl _) (val_digs32 m))
  have HC2 := hide (can_own hb2.out (show dl m' = (digs W32 m').length from rfl) (good_digs m') (Nat.le_refl _) (val_digs32 m'))
  clear hS hbk hb1 hb2 hg1 hg2
  go_wp2_with fail
  have HG2 : Hid (w.heap.size + 3 ≤ w2.heap.size) := HS.out.2.2.2.2.2
  go_loopg [5, 6] m' (fun K xv yv wr => ∃ (X Y : Nat) (A1 A2 : Option Addr) (c1 c2 : Nat), Hid (Y ≤ K) ∧ xv = .slice A1 (dl X) c1 ∧ yv = .slice A2 (dl Y) c2 ∧ Hid (Can wr wr.heap.size A1 c1 X) ∧ Hid (Can wr wr.heap.size A2 c2 Y) ∧ Hid (Nat.gcd X Y = Nat.gcd m m') ∧ Hid (dl X ≤ 99999 ∧ dl Y ≤ 99999) ∧ Hid (Below (w.heap.size + 3) w2 wr))
  case atStart => exact ⟨m, m', _, _, _, _, Nat.le_refl _, rfl, rfl, HC1, HC2, rfl, ⟨HL.out, HL'.out⟩, Below.refl _ _⟩
  case round =>
    obtain ⟨X, Y, A1, A2, c1, c2, hK, rfl, rfl, hX, hY, hg, hd, hbl⟩ := hrel
    have hcr : wr.cell? ⟨w.heap.size + 1 + 1, 0, none⟩ = some (.slice none 0 0) := (hbl.out.cell (by show w.heap.size + 1 + 1 < _; omega)).trans HS.out.2.2.1
    have hfr : wr.frozen? ⟨w.heap.size + 1 + 1, 0, none⟩ = false := (hbl.out.frozen (by show w.heap.size + 1 + 1 < _; omega)).trans HS.out.2.2.2.1
    by_cases h0 : Y = 0
    · have hy0 : dl Y = 0 := by rw [h0]; exact dl0
      have HG : Hid (Nat.gcd m m' = X) := by unfold Hid; rw [← hg.out, h0, Nat.gcd_zero_right]
      clear h0
      go_wp2_with fail
      refine bodyPost_ret (v := .agg #[.slice A1 (dl X) c1]) (by simp [results, Tryz.results107, go_sem, hcr]) rfl ?_
      refine ⟨A1, c1, by rw [HG.out], ?_, ((below5 HS.out).trans (hbl.out.mono (by omega))).setCell (by simp; omega) _⟩
      rw [HG.out]
      refine ⟨hX.out.1, ?_⟩
      have h1 := Rd.setBox hX.out.2 hcr (.slice A1 (dl X) c1)
      simpa [World.setCell] using h1
    · have hy0 : 0 < dl Y := by
        rcases Nat.eq_zero_or_pos (dl Y) with h | h
        · exact absurd (dl_zero h) h0
        · exact h
      have CD : Hid (Calls Tryz.prog 73 #[.agg #[.slice A1 (dl X) c1], .agg #[.slice A2 (dl Y) c2]] wr (DivPost wr X Y)) := by
        have h1 := hd.out
        exact Div_any (hX.out.arg (by omega)) (hY.out.arg (by omega)) (by omega) h1.1
      have H0 := hide h0
      clear h0
      go_wp2_with (go_at_call 73; (with_reducible refine CD.out.mono ?_); rintro e w4 ⟨A3, c3, A4, c4, rfl, hq, hr, hb4⟩)
      go_quiet (fail)
      go_wp2
      go_roundg (X % Y)
      case measure => exact Nat.lt_of_lt_of_le (Nat.mod_lt _ (Nat.pos_of_ne_zero H0.out)) hK.out
      case rel =>
        have hbs : Below w4.heap.size w4 ((w4.alloc (.cells #[.slice A3 (dl (X / Y)) c3] 24)).alloc (.cells #[.slice A4 (dl (X % Y)) c4] 24)) := ((Below.refl _ _).alloc (Nat.le_refl _) _).alloc (by simp) _
        refine ⟨Y, X % Y, A2, A4, c2, c4, Nat.le_refl _, rfl, rfl, ?_, ?_, ?_, ⟨hd.out.2, Nat.le_trans (digs_len_mono (by decide) (Nat.mod_le _ _)) hd.out.1⟩, ?_⟩
        · exact (((hY.out.below hb4.out).more hb4.out.size).below hbs).more hbs.size
        · exact (hr.out.below hbs).more hbs.size
        · unfold Hid; rw [gcd_step]; exact hg.out
        · exact below_drewN (hbl.out.trans ((hb4.out.trans (hbs.mono hb4.out.size)).mono (Nat.le_trans HG2.out hbl.out.size))) _
end Go.Proofs.YtmiklffjffdkgaaGreatDoor
end

section
/- The document's own numbers: Gcd. Conditions: less than 100000 fours of digits. -/
open Go.RowKit
set_option maxRecDepth 100000
namespace Go.Proofs.YtmiklffjffdkgaaGreatDoor
theorem dq_pos {n : Nat} : 0 < dq n ↔ 0 < n := by
  have := digs_len_pos (b := D4) (n := n) (by decide)
  have e : (digs D4 n).length = dq n := rfl
  omega
end Go.Proofs.YtmiklffjffdkgaaGreatDoor
end

section
/- Parted from Rgc: by function. -/
open Go.RowKit
set_option maxRecDepth 100000
namespace Go.Proofs.YtmiklffjffdkgaaGreatDoor
section
set_option maxHeartbeats 2000000 in
theorem rGcd_any {A A' : Option Addr} {m n c c' : Nat} {w : World} (h : RN w w.heap.size A c m) (h' : RN w w.heap.size A' c' n) (hl : dq m ≤ 99999) (hl' : dq n ≤ 99999) :
    Calls Tryz.prog 61 #[.slice A (dq m) c, .slice A' (dq n) c'] w (RefPost w (Nat.gcd m n)) := by
  have HX := hide h
  have HY := hide h'
  have HL := hide hl
  have HL' := hide hl'
  clear h h' hl hl'
  go_enter Tryz.func61, Tryz.ntmps61
  go_wp2_with fail
  go_loopg [0, 1] n (fun K xv yv wr => ∃ (X Y : Nat) (A1 A2 : Option Addr) (c1 c2 : Nat), Hid (Y ≤ K) ∧ xv = .slice A1 (dq X) c1 ∧ yv = .slice A2 (dq Y) c2 ∧ Hid (RN wr wr.heap.size A1 c1 X) ∧ Hid (RN wr wr.heap.size A2 c2 Y) ∧ Hid (Nat.gcd X Y = Nat.gcd m n) ∧ Hid (dq X ≤ 99999 ∧ dq Y ≤ 99999) ∧ Hid (Below w.heap.size w wr))
  case atStart => exact ⟨m, n, _, _, _, _, Nat.le_refl _, rfl, rfl, HX, HY, rfl, ⟨HL.out, HL'.out⟩, Below.refl _ _⟩
  case round =>
    obtain ⟨X, Y, A1, A2, c1, c2, hK, rfl, rfl, hX, hY, hg, hd, hbl⟩ := hrel
    by_cases h0 : Y = 0
    · have hy0 : dq Y = 0 := by rw [h0]; exact dq_zero
      have HG : Hid (Nat.gcd m n = X) := by unfold Hid; rw [← hg.out, h0, Nat.gcd_zero_right]
      clear h0
      go_wp2_with fail
      go_ret
      rw [HG.out]
      exact ⟨A1, c1, rfl, hX, hbl⟩
    · have hy0 : 0 < dq Y := dq_pos.2 (by omega)
      have CD : Hid (Calls Tryz.prog 42 #[.slice A1 (dq X) c1, .slice A2 (dq Y) c2] wr (RDivR wr (X / Y) (X % Y))) := rDiv_any hX.out hY.out hd.out.1 hd.out.2 (by omega)
      have H0 := hide h0
      clear h0
      go_wp2_with (go_at_call 42; (with_reducible refine CD.out.mono ?_); rintro e w4 ⟨A3, c3, A4, c4, rfl, hq, hr, hb4⟩)
      go_roundg (X % Y)
      case measure => exact Nat.lt_of_lt_of_le (Nat.mod_lt _ (Nat.pos_of_ne_zero H0.out)) hK.out
      case rel =>
        refine ⟨Y, X % Y, A2, A4, c2, c4, Nat.le_refl _, rfl, rfl, (hY.out.below hb4.out).more hb4.out.size, hr, ?_, ⟨hd.out.2, Nat.le_trans (digs_len_mono (by decide) (Nat.mod_le _ _)) hd.out.1⟩, hbl.out.trans (hb4.out.mono hbl.out.size)⟩
        unfold Hid; rw [gcd_step]; exact hg.out
end
end Go.Proofs.YtmiklffjffdkgaaGreatDoor
end

section
/- Words for statements: a number that a slice tells in a world and later on; the calls of package nat by what they tell; cells kept through calls. Conditions: at most 100000 words. -/
open Go.RowKit
set_option maxRecDepth 100000
namespace Go.Proofs.YtmiklffjffdkgaaGreatDoor
/-- In world W the slice tells m. -/
def Nm (W : World) (A : Option Addr) (n c m : Nat) : Prop := Hid (Arg W W.heap.size A n c m)
theorem Nm.up {W W' : World} {A : Option Addr} {n c m : Nat} (h : Nm W A n c m) (hb : Hid (Below W.heap.size W W')) : Nm W' A n c m := (h.out.below hb.out).more hb.out.size
theorem Nm.al {W : World} {A : Option Addr} {n c m : Nat} (h : Nm W A n c m) (o : Obj) : Nm (W.alloc o) A n c m := h.up ((Below.refl _ _).alloc (Nat.le_refl _) o)
theorem Nm.dr {W : World} {A : Option Addr} {n c m : Nat} (h : Nm W A n c m) : Nm W.drew A n c m := h
theorem Nm.dl {W : World} {A : Option Addr} {n c m : Nat} (h : Nm W A n c m) : dl m ≤ 100000 := by
  have h1 := h.out.digs.2
  obtain ⟨_, _, _, h3, _⟩ := h.out
  omega
theorem nm_can {W : World} {A : Option Addr} {c m : Nat} (h : Can W W.heap.size A c m) (hd : dl m ≤ 100000) : Nm W A (dl m) c m := h.arg hd
theorem nm_later {w W : World} {A : Option Addr} {l c m : Nat} (h : Later w A l c m) (hb : Hid (Below w.heap.size w W)) : Nm W A l c m := h W hb.out
theorem nm_nil (W : World) (A : Option Addr) (c : Nat) : Nm W A 0 c 0 := ⟨[], rfl, Nat.zero_le _, by omega, Rd.nil, by intro x hx; simp at hx, rfl⟩
/-- What a call leaves that returns a number. -/
def NumR (W : World) (v : Nat) (e : Ending) (w' : World) : Prop := ∃ A c, e = .returned (.agg #[.slice A (dl v) c]) ∧ Nm w' A (dl v) c v ∧ Hid (Below W.heap.size W w')
def BoolR (W : World) (b : Bool) (e : Ending) (w' : World) : Prop := e = .returned (.bool b) ∧ Hid (Below W.heap.size W w')
def DivR (W : World) (m m' : Nat) (e : Ending) (w' : World) : Prop :=
  ∃ A c A' c', e = .returned (.tuple #[.agg #[.slice A (dl (m / m')) c], .agg #[.slice A' (dl (m % m')) c'], .bool true]) ∧ Nm w' A (dl (m / m')) c (m / m') ∧ Nm w' A' (dl (m % m')) c' (m % m') ∧ Hid (Below W.heap.size W w')
section
variable {W : World} {A A' : Option Addr} {n n' c c' m m' : Nat}
theorem dl_mono {a b : Nat} (h : a ≤ b) : dl a ≤ dl b := digs_len_mono (by decide) h
theorem of_h {v : Nat} (h : v ≤ 18446744073709551615) : Calls Tryz.prog 56 #[.int .u64 (v : Int)] W (NumR W v) :=
  (Of_any h).mono fun _ _ ⟨A, c, he, hc, hb⟩ => ⟨A, c, he, nm_can hc (Nat.le_trans (dl_le (k := 2) (by rw [show W32 ^ 2 = 18446744073709551616 from rfl]; omega)) (by omega)), hb⟩
theorem cmp_h {v : Int} (h : Nm W A n c m) (h' : Nm W A' n' c' m') (hv : cmpI m m' = v) : Calls Tryz.prog 31 #[.agg #[.slice A n c], .agg #[.slice A' n' c']] W (IntPost W v) := by
  subst hv
  exact (Cmp_any h.out h'.out).mono fun _ _ h => h
theorem add_h {v : Nat} (h : Nm W A n c m) (h' : Nm W A' n' c' m') (hv : m + m' = v) (hd : dl v ≤ 100000) : Calls Tryz.prog 94 #[.agg #[.slice A n c], .agg #[.slice A' n' c']] W (NumR W v) := by
  subst hv
  exact (Add_any h.out h'.out).mono fun _ _ ⟨A, c, he, hc, hb⟩ => ⟨A, c, he, nm_can hc hd, hb⟩
theorem mul_h {v : Nat} (h : Nm W A n c m) (h' : Nm W A' n' c' m') (hv : m * m' = v) (hd : dl v ≤ 100000) : Calls Tryz.prog 68 #[.agg #[.slice A n c], .agg #[.slice A' n' c']] W (NumR W v) := by
  subst hv
  exact (Mul_any h.out h'.out).mono fun _ _ ⟨A, c, he, hc, hb⟩ => ⟨A, c, he, nm_can hc hd, hb⟩
def SubYes (W : World) (v : Nat) (e : Ending) (w' : World) : Prop := ∃ A c, e = .returned (.tuple #[.agg #[.slice A (dl v) c], .bool true]) ∧ Nm w' A (dl v) c v ∧ Hid (Below W.heap.size W w')
def SubNo (W : World) (e : Ending) (w' : World) : Prop := e = .returned (.tuple #[.agg #[.slice none 0 0], .bool false]) ∧ Hid (Below W.heap.size W w')
theorem sub_yes {v : Nat} (h : Nm W A n c m) (h' : Nm W A' n' c' m') (hm : m' ≤ m) (hv : m - m' = v) : Calls Tryz.prog 95 #[.agg #[.slice A n c], .agg #[.slice A' n' c']] W (SubYes W v) := by
  subst hv
  refine (Sub_any h.out h'.out).mono fun e w' h1 => ?_
  unfold SubPost at h1
  rw [if_pos hm] at h1
  obtain ⟨A2, c2, he, hc, hb⟩ := h1
  exact ⟨A2, c2, he, nm_can hc (Nat.le_trans (dl_mono (Nat.sub_le _ _)) h.dl), hb⟩
theorem sub_no (h : Nm W A n c m) (h' : Nm W A' n' c' m') (hm : ¬ m' ≤ m) : Calls Tryz.prog 95 #[.agg #[.slice A n c], .agg #[.slice A' n' c']] W (SubNo W) := by
  refine (Sub_any h.out h'.out).mono fun e w' h1 => ?_
  unfold SubPost at h1
  rw [if_neg hm] at h1
  exact ⟨h1.1, h1.2⟩
theorem div_h (h : Nm W A n c m) (h' : Nm W A' n' c' m') (h0 : 0 < m') (hd : dl m ≤ 99999) : Calls Tryz.prog 73 #[.agg #[.slice A n c], .agg #[.slice A' n' c']] W (DivR W m m') :=
  (Div_any h.out h'.out h0 hd).mono fun _ _ ⟨A1, c1, A2, c2, he, h1, h2, hb⟩ => ⟨A1, c1, A2, c2, he, nm_can h1.out (Nat.le_trans (dl_mono (Nat.div_le_self _ _)) (by omega)), nm_can h2.out (Nat.le_trans (dl_mono (Nat.mod_le _ _)) (by omega)), hb⟩
theorem div_no (h : Nm W A n c m) (h' : Nm W A' n' c' m') (h0 : m' = 0) : Calls Tryz.prog 73 #[.agg #[.slice A n c], .agg #[.slice A' n' c']] W (DivNone W) := Div_zero h.out h'.out h0
theorem gcd_h {v : Nat} (h : Nm W A n c m) (h' : Nm W A' n' c' m') (hv : Nat.gcd m m' = v) (hd : dl m ≤ 99999) (hd' : dl m' ≤ 99999) : Calls Tryz.prog 107 #[.agg #[.slice A n c], .agg #[.slice A' n' c']] W (NumR W v) := by
  subst hv
  refine (Gcd_any h.out h'.out hd hd').mono fun _ _ ⟨A1, c1, he, h1, hb⟩ => ⟨A1, c1, he, nm_can h1.out ?_, hb⟩
  rcases Nat.eq_zero_or_pos m with h0 | h0
  · rw [h0, Nat.gcd_zero_left]; omega
  · exact Nat.le_trans (dl_mono (Nat.le_of_dvd h0 (Nat.gcd_dvd_left _ _))) (by omega)
theorem good_h (h : Nm W A (dl m) c m) : Calls Tryz.prog 50 #[.agg #[.slice A (dl m) c]] W (BoolR W true) := by
  have h1 := (h.out.digs).1
  have hd := h.dl
  have h2 := Good_any (c := c) (show dl m = (digs W32 m).length from rfl) h1.2 (by omega)
  rw [goodB_digs] at h2
  exact h2.mono fun _ _ h => h
end
theorem dl_bd {m k : Nat} (h : m < W32 ^ k) (hk : k ≤ 99999) : dl m ≤ 99999 := Nat.le_trans (dl_le h) hk
/-- Two boxes, kept through a call. -/
theorem bx2 {a b : World} {v u : Value} {t : TypeId} (hb : Hid (Below ((a.alloc (.cells #[v] t)).alloc (.cells #[u] t)).heap.size ((a.alloc (.cells #[v] t)).alloc (.cells #[u] t)) b)) :
    b.cell? ⟨a.heap.size, 0, none⟩ = some v ∧ b.cell? ⟨a.heap.size + 1, 0, none⟩ = some u ∧ Hid (a.heap.size + 2 ≤ b.heap.size) ∧ Hid (Below a.heap.size a b) := by
  have hs := hb.out.size
  simp at hs
  have b1 : (a.alloc (.cells #[v] t)).heap[a.heap.size]? = some (.cells #[v] t (0, 0)) := heap_alloc_new a _
  have b2 : ((a.alloc (.cells #[v] t)).alloc (.cells #[u] t)).heap[a.heap.size + 1]? = some (.cells #[u] t (0, 0)) := by simpa using heap_alloc_new (a.alloc (.cells #[v] t)) (.cells #[u] t)
  have b3 : ((a.alloc (.cells #[v] t)).alloc (.cells #[u] t)).heap[a.heap.size]? = some (.cells #[v] t (0, 0)) := (Below.heap_alloc _ _ _ (by simp)).trans b1
  refine ⟨(hb.out.cell (by show a.heap.size < _; simp; omega)).trans (one_cell b3).1, (hb.out.cell (by show a.heap.size + 1 < _; simp)).trans (one_cell b2).1, hs, ?_⟩
  exact (((Below.refl _ _).alloc (Nat.le_refl _) _).alloc (by simp) _).trans (hb.out.mono (by simp; omega))
/-- One box, kept through a call. -/
theorem bx1 {a b : World} {v : Value} {t : TypeId} (hb : Hid (Below (a.alloc (.cells #[v] t)).heap.size (a.alloc (.cells #[v] t)) b)) :
    b.cell? ⟨a.heap.size, 0, none⟩ = some v ∧ Hid (a.heap.size + 1 ≤ b.heap.size) ∧ Hid (Below a.heap.size a b) := by
  have hs := hb.out.size
  simp at hs
  exact ⟨(hb.out.cell (by show a.heap.size < _; simp)).trans (one_cell (heap_alloc_new a _)).1, hs, ((Below.refl _ _).alloc (Nat.le_refl _) _).trans (hb.out.mono (by simp))⟩
theorem new2 (a : World) (v u : Value) (t : TypeId) : ((a.alloc (.cells #[v] t)).alloc (.cells #[u] t)).cell? ⟨a.heap.size, 0, none⟩ = some v ∧ ((a.alloc (.cells #[v] t)).alloc (.cells #[u] t)).cell? ⟨a.heap.size + 1, 0, none⟩ = some u ∧
    Below a.heap.size a ((a.alloc (.cells #[v] t)).alloc (.cells #[u] t)) ∧ ((a.alloc (.cells #[v] t)).alloc (.cells #[u] t)).heap.size = a.heap.size + 2 := by
  obtain ⟨h1, h2, h3, h4⟩ := bx2 (a := a) (v := v) (u := u) (t := t) (b := (a.alloc (.cells #[v] t)).alloc (.cells #[u] t)) (Below.refl _ _)
  exact ⟨h1, h2, h4.out, by simp⟩
theorem new1 (a : World) (v : Value) (t : TypeId) : (a.alloc (.cells #[v] t)).cell? ⟨a.heap.size, 0, none⟩ = some v ∧ Below a.heap.size a (a.alloc (.cells #[v] t)) ∧ (a.alloc (.cells #[v] t)).heap.size = a.heap.size + 1 := by
  obtain ⟨h1, h3, h4⟩ := bx1 (a := a) (v := v) (t := t) (b := a.alloc (.cells #[v] t)) (Below.refl _ _)
  exact ⟨h1, h4.out, by simp⟩
/-- Two old boxes and two new ones, at a region's start. -/
theorem st22 {b : World} {p : Nat} {v0 v1 v2 v3 : Value} {t : TypeId} (e0 : b.cell? ⟨p, 0, none⟩ = some v0) (e1 : b.cell? ⟨p + 1, 0, none⟩ = some v1) (hp : Hid (p + 2 ≤ b.heap.size)) :
    ((b.alloc (.cells #[v2] t)).alloc (.cells #[v3] t)).drew.cell? ⟨p, 0, none⟩ = some v0 ∧ ((b.alloc (.cells #[v2] t)).alloc (.cells #[v3] t)).drew.cell? ⟨p + 1, 0, none⟩ = some v1 ∧
    ((b.alloc (.cells #[v2] t)).alloc (.cells #[v3] t)).drew.cell? ⟨b.heap.size, 0, none⟩ = some v2 ∧ ((b.alloc (.cells #[v2] t)).alloc (.cells #[v3] t)).drew.cell? ⟨b.heap.size + 1, 0, none⟩ = some v3 ∧
    Below b.heap.size b ((b.alloc (.cells #[v2] t)).alloc (.cells #[v3] t)).drew ∧ b.heap.size + 2 ≤ ((b.alloc (.cells #[v2] t)).alloc (.cells #[v3] t)).drew.heap.size := by
  obtain ⟨n1, n2, n3, n4⟩ := new2 b v2 v3 t
  have hp := hp.out
  exact ⟨(n3.cell (by show p < _; omega)).trans e0, (n3.cell (by show p + 1 < _; omega)).trans e1, n1, n2, n3.drew, by show _ ≤ ((b.alloc (.cells #[v2] t)).alloc (.cells #[v3] t)).heap.size; omega⟩
theorem chainB {w a b : World} (h : Hid (Below w.heap.size w a)) (hb : Hid (Below a.heap.size a b)) : Below w.heap.size w b := (chain h hb.out).out
theorem cellUp {p : Nat} {a b : World} {v : Value} (h : a.cell? ⟨p, 0, none⟩ = some v) (hp : p < a.heap.size) (hb : Hid (Below a.heap.size a b)) : b.cell? ⟨p, 0, none⟩ = some v := (hb.out.cell hp).trans h
theorem kp1 {w W W' : World} {b0 lim : Nat} {v0 : Value} (hl : Hid (b0 < lim)) (hb : Hid (Below W.heap.size W W'))
    (h : W.cell? ⟨b0, 0, none⟩ = some v0 ∧ Below w.heap.size w W ∧ lim ≤ W.heap.size) :
    W'.cell? ⟨b0, 0, none⟩ = some v0 ∧ Below w.heap.size w W' ∧ lim ≤ W'.heap.size := by
  obtain ⟨h0, hB, hL⟩ := h
  have hl := hl.out
  have hs := hb.out.size
  exact ⟨(hb.out.cell (by show b0 < _; omega)).trans h0, hB.trans (hb.out.mono hB.size), by omega⟩
theorem bl1 {w W : World} {lim : Nat} {a0 : Addr} {v0 : Option Value} (h : W.cell? a0 = v0 ∧ Below w.heap.size w W ∧ lim ≤ W.heap.size) : Hid (Below w.heap.size w W) := h.2.1
theorem dr1 {w W : World} {lim : Nat} {a0 : Addr} {v0 : Option Value} (h : W.cell? a0 = v0 ∧ Below w.heap.size w W ∧ lim ≤ W.heap.size) : W.drew.cell? a0 = v0 ∧ Below w.heap.size w W.drew ∧ lim ≤ W.drew.heap.size := ⟨h.1, h.2.1.drew, h.2.2⟩
theorem kp2 {w W W' : World} {b0 b1 lim : Nat} {v0 v1 : Value} (hl : Hid (b0 < lim ∧ b1 < lim)) (hb : Hid (Below W.heap.size W W'))
    (h : W.cell? ⟨b0, 0, none⟩ = some v0 ∧ W.cell? ⟨b1, 0, none⟩ = some v1 ∧ Below w.heap.size w W ∧ lim ≤ W.heap.size) :
    W'.cell? ⟨b0, 0, none⟩ = some v0 ∧ W'.cell? ⟨b1, 0, none⟩ = some v1 ∧ Below w.heap.size w W' ∧ lim ≤ W'.heap.size := by
  obtain ⟨h0, h1, hB, hL⟩ := h
  have hl := hl.out
  have hs := hb.out.size
  exact ⟨(hb.out.cell (by show b0 < _; omega)).trans h0, (hb.out.cell (by show b1 < _; omega)).trans h1, hB.trans (hb.out.mono hB.size), by omega⟩
theorem bl2 {w W : World} {lim : Nat} {a0 a1 : Addr} {v0 v1 : Option Value} (h : W.cell? a0 = v0 ∧ W.cell? a1 = v1 ∧ Below w.heap.size w W ∧ lim ≤ W.heap.size) : Hid (Below w.heap.size w W) := h.2.2.1
theorem dr2 {w W : World} {lim : Nat} {a0 a1 : Addr} {v0 v1 : Option Value} (h : W.cell? a0 = v0 ∧ W.cell? a1 = v1 ∧ Below w.heap.size w W ∧ lim ≤ W.heap.size) : W.drew.cell? a0 = v0 ∧ W.drew.cell? a1 = v1 ∧ Below w.heap.size w W.drew ∧ lim ≤ W.drew.heap.size := ⟨h.1, h.2.1, h.2.2.1.drew, h.2.2.2⟩
theorem kp3 {w W W' : World} {b0 b1 b2 lim : Nat} {v0 v1 v2 : Value} (hl : Hid (b0 < lim ∧ b1 < lim ∧ b2 < lim)) (hb : Hid (Below W.heap.size W W'))
    (h : W.cell? ⟨b0, 0, none⟩ = some v0 ∧ W.cell? ⟨b1, 0, none⟩ = some v1 ∧ W.cell? ⟨b2, 0, none⟩ = some v2 ∧ Below w.heap.size w W ∧ lim ≤ W.heap.size) :
    W'.cell? ⟨b0, 0, none⟩ = some v0 ∧ W'.cell? ⟨b1, 0, none⟩ = some v1 ∧ W'.cell? ⟨b2, 0, none⟩ = some v2 ∧ Below w.heap.size w W' ∧ lim ≤ W'.heap.size := by
  obtain ⟨h0, h1, h2, hB, hL⟩ := h
  have hl := hl.out
  have hs := hb.out.size
  exact ⟨(hb.out.cell (by show b0 < _; omega)).trans h0, (hb.out.cell (by show b1 < _; omega)).trans h1, (hb.out.cell (by show b2 < _; omega)).trans h2, hB.trans (hb.out.mono hB.size), by omega⟩
theorem bl3 {w W : World} {lim : Nat} {a0 a1 a2 : Addr} {v0 v1 v2 : Option Value} (h : W.cell? a0 = v0 ∧ W.cell? a1 = v1 ∧ W.cell? a2 = v2 ∧ Below w.heap.size w W ∧ lim ≤ W.heap.size) : Hid (Below w.heap.size w W) := h.2.2.2.1
theorem dr3 {w W : World} {lim : Nat} {a0 a1 a2 : Addr} {v0 v1 v2 : Option Value} (h : W.cell? a0 = v0 ∧ W.cell? a1 = v1 ∧ W.cell? a2 = v2 ∧ Below w.heap.size w W ∧ lim ≤ W.heap.size) : W.drew.cell? a0 = v0 ∧ W.drew.cell? a1 = v1 ∧ W.drew.cell? a2 = v2 ∧ Below w.heap.size w W.drew ∧ lim ≤ W.drew.heap.size := ⟨h.1, h.2.1, h.2.2.1, h.2.2.2.1.drew, h.2.2.2.2⟩
theorem kp4 {w W W' : World} {b0 b1 b2 b3 lim : Nat} {v0 v1 v2 v3 : Value} (hl : Hid (b0 < lim ∧ b1 < lim ∧ b2 < lim ∧ b3 < lim)) (hb : Hid (Below W.heap.size W W'))
    (h : W.cell? ⟨b0, 0, none⟩ = some v0 ∧ W.cell? ⟨b1, 0, none⟩ = some v1 ∧ W.cell? ⟨b2, 0, none⟩ = some v2 ∧ W.cell? ⟨b3, 0, none⟩ = some v3 ∧ Below w.heap.size w W ∧ lim ≤ W.heap.size) :
    W'.cell? ⟨b0, 0, none⟩ = some v0 ∧ W'.cell? ⟨b1, 0, none⟩ = some v1 ∧ W'.cell? ⟨b2, 0, none⟩ = some v2 ∧ W'.cell? ⟨b3, 0, none⟩ = some v3 ∧ Below w.heap.size w W' ∧ lim ≤ W'.heap.size := by
  obtain ⟨h0, h1, h2, h3, hB, hL⟩ := h
  have hl := hl.out
  have hs := hb.out.size
  exact ⟨(hb.out.cell (by show b0 < _; omega)).trans h0, (hb.out.cell (by show b1 < _; omega)).trans h1, (hb.out.cell (by show b2 < _; omega)).trans h2, (hb.out.cell (by show b3 < _; omega)).trans h3, hB.trans (hb.out.mono hB.size), by omega⟩
theorem bl4 {w W : World} {lim : Nat} {a0 a1 a2 a3 : Addr} {v0 v1 v2 v3 : Option Value} (h : W.cell? a0 = v0 ∧ W.cell? a1 = v1 ∧ W.cell? a2 = v2 ∧ W.cell? a3 = v3 ∧ Below w.heap.size w W ∧ lim ≤ W.heap.size) : Hid (Below w.heap.size w W) := h.2.2.2.2.1
theorem dr4 {w W : World} {lim : Nat} {a0 a1 a2 a3 : Addr} {v0 v1 v2 v3 : Option Value} (h : W.cell? a0 = v0 ∧ W.cell? a1 = v1 ∧ W.cell? a2 = v2 ∧ W.cell? a3 = v3 ∧ Below w.heap.size w W ∧ lim ≤ W.heap.size) : W.drew.cell? a0 = v0 ∧ W.drew.cell? a1 = v1 ∧ W.drew.cell? a2 = v2 ∧ W.drew.cell? a3 = v3 ∧ Below w.heap.size w W.drew ∧ lim ≤ W.drew.heap.size := ⟨h.1, h.2.1, h.2.2.1, h.2.2.2.1, h.2.2.2.2.1.drew, h.2.2.2.2.2⟩
theorem kp5 {w W W' : World} {b0 b1 b2 b3 b4 lim : Nat} {v0 v1 v2 v3 v4 : Value} (hl : Hid (b0 < lim ∧ b1 < lim ∧ b2 < lim ∧ b3 < lim ∧ b4 < lim)) (hb : Hid (Below W.heap.size W W'))
    (h : W.cell? ⟨b0, 0, none⟩ = some v0 ∧ W.cell? ⟨b1, 0, none⟩ = some v1 ∧ W.cell? ⟨b2, 0, none⟩ = some v2 ∧ W.cell? ⟨b3, 0, none⟩ = some v3 ∧ W.cell? ⟨b4, 0, none⟩ = some v4 ∧ Below w.heap.size w W ∧ lim ≤ W.heap.size) :
    W'.cell? ⟨b0, 0, none⟩ = some v0 ∧ W'.cell? ⟨b1, 0, none⟩ = some v1 ∧ W'.cell? ⟨b2, 0, none⟩ = some v2 ∧ W'.cell? ⟨b3, 0, none⟩ = some v3 ∧ W'.cell? ⟨b4, 0, none⟩ = some v4 ∧ Below w.heap.size w W' ∧ lim ≤ W'.heap.size := by
  obtain ⟨h0, h1, h2, h3, h4, hB, hL⟩ := h
  have hl := hl.out
  have hs := hb.out.size
  exact ⟨(hb.out.cell (by show b0 < _; omega)).trans h0, (hb.out.cell (by show b1 < _; omega)).trans h1, (hb.out.cell (by show b2 < _; omega)).trans h2, (hb.out.cell (by show b3 < _; omega)).trans h3, (hb.out.cell (by show b4 < _; omega)).trans h4, hB.trans (hb.out.mono hB.size), by omega⟩
theorem bl5 {w W : World} {lim : Nat} {a0 a1 a2 a3 a4 : Addr} {v0 v1 v2 v3 v4 : Option Value} (h : W.cell? a0 = v0 ∧ W.cell? a1 = v1 ∧ W.cell? a2 = v2 ∧ W.cell? a3 = v3 ∧ W.cell? a4 = v4 ∧ Below w.heap.size w W ∧ lim ≤ W.heap.size) : Hid (Below w.heap.size w W) := h.2.2.2.2.2.1
theorem dr5 {w W : World} {lim : Nat} {a0 a1 a2 a3 a4 : Addr} {v0 v1 v2 v3 v4 : Option Value} (h : W.cell? a0 = v0 ∧ W.cell? a1 = v1 ∧ W.cell? a2 = v2 ∧ W.cell? a3 = v3 ∧ W.cell? a4 = v4 ∧ Below w.heap.size w W ∧ lim ≤ W.heap.size) : W.drew.cell? a0 = v0 ∧ W.drew.cell? a1 = v1 ∧ W.drew.cell? a2 = v2 ∧ W.drew.cell? a3 = v3 ∧ W.drew.cell? a4 = v4 ∧ Below w.heap.size w W.drew ∧ lim ≤ W.drew.heap.size := ⟨h.1, h.2.1, h.2.2.1, h.2.2.2.1, h.2.2.2.2.1, h.2.2.2.2.2.1.drew, h.2.2.2.2.2.2⟩
theorem kp6 {w W W' : World} {b0 b1 b2 b3 b4 b5 lim : Nat} {v0 v1 v2 v3 v4 v5 : Value} (hl : Hid (b0 < lim ∧ b1 < lim ∧ b2 < lim ∧ b3 < lim ∧ b4 < lim ∧ b5 < lim)) (hb : Hid (Below W.heap.size W W'))
    (h : W.cell? ⟨b0, 0, none⟩ = some v0 ∧ W.cell? ⟨b1, 0, none⟩ = some v1 ∧ W.cell? ⟨b2, 0, none⟩ = some v2 ∧ W.cell? ⟨b3, 0, none⟩ = some v3 ∧ W.cell? ⟨b4, 0, none⟩ = some v4 ∧ W.cell? ⟨b5, 0, none⟩ = some v5 ∧ Below w.heap.size w W ∧ lim ≤ W.heap.size) :
    W'.cell? ⟨b0, 0, none⟩ = some v0 ∧ W'.cell? ⟨b1, 0, none⟩ = some v1 ∧ W'.cell? ⟨b2, 0, none⟩ = some v2 ∧ W'.cell? ⟨b3, 0, none⟩ = some v3 ∧ W'.cell? ⟨b4, 0, none⟩ = some v4 ∧ W'.cell? ⟨b5, 0, none⟩ = some v5 ∧ Below w.heap.size w W' ∧ lim ≤ W'.heap.size := by
  obtain ⟨h0, h1, h2, h3, h4, h5, hB, hL⟩ := h
  have hl := hl.out
  have hs := hb.out.size
  exact ⟨(hb.out.cell (by show b0 < _; omega)).trans h0, (hb.out.cell (by show b1 < _; omega)).trans h1, (hb.out.cell (by show b2 < _; omega)).trans h2, (hb.out.cell (by show b3 < _; omega)).trans h3, (hb.out.cell (by show b4 < _; omega)).trans h4, (hb.out.cell (by show b5 < _; omega)).trans h5, hB.trans (hb.out.mono hB.size), by omega⟩
theorem bl6 {w W : World} {lim : Nat} {a0 a1 a2 a3 a4 a5 : Addr} {v0 v1 v2 v3 v4 v5 : Option Value} (h : W.cell? a0 = v0 ∧ W.cell? a1 = v1 ∧ W.cell? a2 = v2 ∧ W.cell? a3 = v3 ∧ W.cell? a4 = v4 ∧ W.cell? a5 = v5 ∧ Below w.heap.size w W ∧ lim ≤ W.heap.size) : Hid (Below w.heap.size w W) := h.2.2.2.2.2.2.1
theorem dr6 {w W : World} {lim : Nat} {a0 a1 a2 a3 a4 a5 : Addr} {v0 v1 v2 v3 v4 v5 : Option Value} (h : W.cell? a0 = v0 ∧ W.cell? a1 = v1 ∧ W.cell? a2 = v2 ∧ W.cell? a3 = v3 ∧ W.cell? a4 = v4 ∧ W.cell? a5 = v5 ∧ Below w.heap.size w W ∧ lim ≤ W.heap.size) : W.drew.cell? a0 = v0 ∧ W.drew.cell? a1 = v1 ∧ W.drew.cell? a2 = v2 ∧ W.drew.cell? a3 = v3 ∧ W.drew.cell? a4 = v4 ∧ W.drew.cell? a5 = v5 ∧ Below w.heap.size w W.drew ∧ lim ≤ W.drew.heap.size := ⟨h.1, h.2.1, h.2.2.1, h.2.2.2.1, h.2.2.2.2.1, h.2.2.2.2.2.1, h.2.2.2.2.2.2.1.drew, h.2.2.2.2.2.2.2⟩
theorem kp7 {w W W' : World} {b0 b1 b2 b3 b4 b5 b6 lim : Nat} {v0 v1 v2 v3 v4 v5 v6 : Value} (hl : Hid (b0 < lim ∧ b1 < lim ∧ b2 < lim ∧ b3 < lim ∧ b4 < lim ∧ b5 < lim ∧ b6 < lim)) (hb : Hid (Below W.heap.size W W'))
    (h : W.cell? ⟨b0, 0, none⟩ = some v0 ∧ W.cell? ⟨b1, 0, none⟩ = some v1 ∧ W.cell? ⟨b2, 0, none⟩ = some v2 ∧ W.cell? ⟨b3, 0, none⟩ = some v3 ∧ W.cell? ⟨b4, 0, none⟩ = some v4 ∧ W.cell? ⟨b5, 0, none⟩ = some v5 ∧ W.cell? ⟨b6, 0, none⟩ = some v6 ∧ Below w.heap.size w W ∧ lim ≤ W.heap.size) :
    W'.cell? ⟨b0, 0, none⟩ = some v0 ∧ W'.cell? ⟨b1, 0, none⟩ = some v1 ∧ W'.cell? ⟨b2, 0, none⟩ = some v2 ∧ W'.cell? ⟨b3, 0, none⟩ = some v3 ∧ W'.cell? ⟨b4, 0, none⟩ = some v4 ∧ W'.cell? ⟨b5, 0, none⟩ = some v5 ∧ W'.cell? ⟨b6, 0, none⟩ = some v6 ∧ Below w.heap.size w W' ∧ lim ≤ W'.heap.size := by
  obtain ⟨h0, h1, h2, h3, h4, h5, h6, hB, hL⟩ := h
  have hl := hl.out
  have hs := hb.out.size
  exact ⟨(hb.out.cell (by show b0 < _; omega)).trans h0, (hb.out.cell (by show b1 < _; omega)).trans h1, (hb.out.cell (by show b2 < _; omega)).trans h2, (hb.out.cell (by show b3 < _; omega)).trans h3, (hb.out.cell (by show b4 < _; omega)).trans h4, (hb.out.cell (by show b5 < _; omega)).trans h5, (hb.out.cell (by show b6 < _; omega)).trans h6, hB.trans (hb.out.mono hB.size), by omega⟩
theorem bl7 {w W : World} {lim : Nat} {a0 a1 a2 a3 a4 a5 a6 : Addr} {v0 v1 v2 v3 v4 v5 v6 : Option Value} (h : W.cell? a0 = v0 ∧ W.cell? a1 = v1 ∧ W.cell? a2 = v2 ∧ W.cell? a3 = v3 ∧ W.cell? a4 = v4 ∧ W.cell? a5 = v5 ∧ W.cell? a6 = v6 ∧ Below w.heap.size w W ∧ lim ≤ W.heap.size) : Hid (Below w.heap.size w W) := h.2.2.2.2.2.2.2.1
theorem dr7 {w W : World} {lim : Nat} {a0 a1 a2 a3 a4 a5 a6 : Addr} {v0 v1 v2 v3 v4 v5 v6 : Option Value} (h : W.cell? a0 = v0 ∧ W.cell? a1 = v1 ∧ W.cell? a2 = v2 ∧ W.cell? a3 = v3 ∧ W.cell? a4 = v4 ∧ W.cell? a5 = v5 ∧ W.cell? a6 = v6 ∧ Below w.heap.size w W ∧ lim ≤ W.heap.size) : W.drew.cell? a0 = v0 ∧ W.drew.cell? a1 = v1 ∧ W.drew.cell? a2 = v2 ∧ W.drew.cell? a3 = v3 ∧ W.drew.cell? a4 = v4 ∧ W.drew.cell? a5 = v5 ∧ W.drew.cell? a6 = v6 ∧ Below w.heap.size w W.drew ∧ lim ≤ W.drew.heap.size := ⟨h.1, h.2.1, h.2.2.1, h.2.2.2.1, h.2.2.2.2.1, h.2.2.2.2.2.1, h.2.2.2.2.2.2.1, h.2.2.2.2.2.2.2.1.drew, h.2.2.2.2.2.2.2.2⟩
theorem kp8 {w W W' : World} {b0 b1 b2 b3 b4 b5 b6 b7 lim : Nat} {v0 v1 v2 v3 v4 v5 v6 v7 : Value} (hl : Hid (b0 < lim ∧ b1 < lim ∧ b2 < lim ∧ b3 < lim ∧ b4 < lim ∧ b5 < lim ∧ b6 < lim ∧ b7 < lim)) (hb : Hid (Below W.heap.size W W'))
    (h : W.cell? ⟨b0, 0, none⟩ = some v0 ∧ W.cell? ⟨b1, 0, none⟩ = some v1 ∧ W.cell? ⟨b2, 0, none⟩ = some v2 ∧ W.cell? ⟨b3, 0, none⟩ = some v3 ∧ W.cell? ⟨b4, 0, none⟩ = some v4 ∧ W.cell? ⟨b5, 0, none⟩ = some v5 ∧ W.cell? ⟨b6, 0, none⟩ = some v6 ∧ W.cell? ⟨b7, 0, none⟩ = some v7 ∧ Below w.heap.size w W ∧ lim ≤ W.heap.size) :
    W'.cell? ⟨b0, 0, none⟩ = some v0 ∧ W'.cell? ⟨b1, 0, none⟩ = some v1 ∧ W'.cell? ⟨b2, 0, none⟩ = some v2 ∧ W'.cell? ⟨b3, 0, none⟩ = some v3 ∧ W'.cell? ⟨b4, 0, none⟩ = some v4 ∧ W'.cell? ⟨b5, 0, none⟩ = some v5 ∧ W'.cell? ⟨b6, 0, none⟩ = some v6 ∧ W'.cell? ⟨b7, 0, none⟩ = some v7 ∧ Below w.heap.size w W' ∧ lim ≤ W'.heap.size := by
  obtain ⟨h0, h1, h2, h3, h4, h5, h6, h7, hB, hL⟩ := h
  have hl := hl.out
  have hs := hb.out.size
  exact ⟨(hb.out.cell (by show b0 < _; omega)).trans h0, (hb.out.cell (by show b1 < _; omega)).trans h1, (hb.out.cell (by show b2 < _; omega)).trans h2, (hb.out.cell (by show b3 < _; omega)).trans h3, (hb.out.cell (by show b4 < _; omega)).trans h4, (hb.out.cell (by show b5 < _; omega)).trans h5, (hb.out.cell (by show b6 < _; omega)).trans h6, (hb.out.cell (by show b7 < _; omega)).trans h7, hB.trans (hb.out.mono hB.size), by omega⟩
theorem bl8 {w W : World} {lim : Nat} {a0 a1 a2 a3 a4 a5 a6 a7 : Addr} {v0 v1 v2 v3 v4 v5 v6 v7 : Option Value} (h : W.cell? a0 = v0 ∧ W.cell? a1 = v1 ∧ W.cell? a2 = v2 ∧ W.cell? a3 = v3 ∧ W.cell? a4 = v4 ∧ W.cell? a5 = v5 ∧ W.cell? a6 = v6 ∧ W.cell? a7 = v7 ∧ Below w.heap.size w W ∧ lim ≤ W.heap.size) : Hid (Below w.heap.size w W) := h.2.2.2.2.2.2.2.2.1
theorem dr8 {w W : World} {lim : Nat} {a0 a1 a2 a3 a4 a5 a6 a7 : Addr} {v0 v1 v2 v3 v4 v5 v6 v7 : Option Value} (h : W.cell? a0 = v0 ∧ W.cell? a1 = v1 ∧ W.cell? a2 = v2 ∧ W.cell? a3 = v3 ∧ W.cell? a4 = v4 ∧ W.cell? a5 = v5 ∧ W.cell? a6 = v6 ∧ W.cell? a7 = v7 ∧ Below w.heap.size w W ∧ lim ≤ W.heap.size) : W.drew.cell? a0 = v0 ∧ W.drew.cell? a1 = v1 ∧ W.drew.cell? a2 = v2 ∧ W.drew.cell? a3 = v3 ∧ W.drew.cell? a4 = v4 ∧ W.drew.cell? a5 = v5 ∧ W.drew.cell? a6 = v6 ∧ W.drew.cell? a7 = v7 ∧ Below w.heap.size w W.drew ∧ lim ≤ W.drew.heap.size := ⟨h.1, h.2.1, h.2.2.1, h.2.2.2.1, h.2.2.2.2.1, h.2.2.2.2.2.1, h.2.2.2.2.2.2.1, h.2.2.2.2.2.2.2.1, h.2.2.2.2.2.2.2.2.1.drew, h.2.2.2.2.2.2.2.2.2⟩
theorem kp9 {w W W' : World} {b0 b1 b2 b3 b4 b5 b6 b7 b8 lim : Nat} {v0 v1 v2 v3 v4 v5 v6 v7 v8 : Value} (hl : Hid (b0 < lim ∧ b1 < lim ∧ b2 < lim ∧ b3 < lim ∧ b4 < lim ∧ b5 < lim ∧ b6 < lim ∧ b7 < lim ∧ b8 < lim)) (hb : Hid (Below W.heap.size W W'))
    (h : W.cell? ⟨b0, 0, none⟩ = some v0 ∧ W.cell? ⟨b1, 0, none⟩ = some v1 ∧ W.cell? ⟨b2, 0, none⟩ = some v2 ∧ W.cell? ⟨b3, 0, none⟩ = some v3 ∧ W.cell? ⟨b4, 0, none⟩ = some v4 ∧ W.cell? ⟨b5, 0, none⟩ = some v5 ∧ W.cell? ⟨b6, 0, none⟩ = some v6 ∧ W.cell? ⟨b7, 0, none⟩ = some v7 ∧ W.cell? ⟨b8, 0, none⟩ = some v8 ∧ Below w.heap.size w W ∧ lim ≤ W.heap.size) :
    W'.cell? ⟨b0, 0, none⟩ = some v0 ∧ W'.cell? ⟨b1, 0, none⟩ = some v1 ∧ W'.cell? ⟨b2, 0, none⟩ = some v2 ∧ W'.cell? ⟨b3, 0, none⟩ = some v3 ∧ W'.cell? ⟨b4, 0, none⟩ = some v4 ∧ W'.cell? ⟨b5, 0, none⟩ = some v5 ∧ W'.cell? ⟨b6, 0, none⟩ = some v6 ∧ W'.cell? ⟨b7, 0, none⟩ = some v7 ∧ W'.cell? ⟨b8, 0, none⟩ = some v8 ∧ Below w.heap.size w W' ∧ lim ≤ W'.heap.size := by
  obtain ⟨h0, h1, h2, h3, h4, h5, h6, h7, h8, hB, hL⟩ := h
  have hl := hl.out
  have hs := hb.out.size
  exact ⟨(hb.out.cell (by show b0 < _; omega)).trans h0, (hb.out.cell (by show b1 < _; omega)).trans h1, (hb.out.cell (by show b2 < _; omega)).trans h2, (hb.out.cell (by show b3 < _; omega)).trans h3, (hb.out.cell (by show b4 < _; omega)).trans h4, (hb.out.cell (by show b5 < _; omega)).trans h5, (hb.out.cell (by show b6 < _; omega)).trans h6, (hb.out.cell (by show b7 < _; omega)).trans h7, (hb.out.cell (by show b8 < _; omega)).trans h8, hB.trans (hb.out.mono hB.size), by omega⟩
theorem bl9 {w W : World} {lim : Nat} {a0 a1 a2 a3 a4 a5 a6 a7 a8 : Addr} {v0 v1 v2 v3 v4 v5 v6 v7 v8 : Option Value} (h : W.cell? a0 = v0 ∧ W.cell? a1 = v1 ∧ W.cell? a2 = v2 ∧ W.cell? a3 = v3 ∧ W.cell? a4 = v4 ∧ W.cell? a5 = v5 ∧ W.cell? a6 = v6 ∧ W.cell? a7 = v7 ∧ W.cell? a8 = v8 ∧ Below w.heap.size w W ∧ lim ≤ W.heap.size) : Hid (Below w.heap.size w W) := h.2.2.2.2.2.2.2.2.2.1
theorem dr9 {w W : World} {lim : Nat} {a0 a1 a2 a3 a4 a5 a6 a7 a8 : Addr} {v0 v1 v2 v3 v4 v5 v6 v7 v8 : Option Value} (h : W.cell? a0 = v0 ∧ W.cell? a1 = v1 ∧ W.cell? a2 = v2 ∧ W.cell? a3 = v3 ∧ W.cell? a4 = v4 ∧ W.cell? a5 = v5 ∧ W.cell? a6 = v6 ∧ W.cell? a7 = v7 ∧ W.cell? a8 = v8 ∧ Below w.heap.size w W ∧ lim ≤ W.heap.size) : W.drew.cell? a0 = v0 ∧ W.drew.cell? a1 = v1 ∧ W.drew.cell? a2 = v2 ∧ W.drew.cell? a3 = v3 ∧ W.drew.cell? a4 = v4 ∧ W.drew.cell? a5 = v5 ∧ W.drew.cell? a6 = v6 ∧ W.drew.cell? a7 = v7 ∧ W.drew.cell? a8 = v8 ∧ Below w.heap.size w W.drew ∧ lim ≤ W.drew.heap.size := ⟨h.1, h.2.1, h.2.2.1, h.2.2.2.1, h.2.2.2.2.1, h.2.2.2.2.2.1, h.2.2.2.2.2.2.1, h.2.2.2.2.2.2.2.1, h.2.2.2.2.2.2.2.2.1, h.2.2.2.2.2.2.2.2.2.1.drew, h.2.2.2.2.2.2.2.2.2.2⟩
/- A region's start: old boxes and new ones. -/
theorem st1_0 {b : World} {p0 : Nat} {v0 : Value} {t : TypeId} (e0 : b.cell? ⟨p0, 0, none⟩ = some v0) (hp : Hid (p0 < b.heap.size)) :
    b.drew.cell? ⟨p0, 0, none⟩ = some v0 ∧ Below b.heap.size b b.drew ∧ b.heap.size + 0 ≤ b.drew.heap.size := by
  have n3 : Below b.heap.size b b := Below.refl _ _
  have hp := hp.out
  exact ⟨(n3.cell (by show p0 < _; omega)).trans e0, n3.drew, by show _ ≤ b.heap.size; omega⟩
theorem st2_0 {b : World} {p0 p1 : Nat} {v0 v1 : Value} {t : TypeId} (e0 : b.cell? ⟨p0, 0, none⟩ = some v0) (e1 : b.cell? ⟨p1, 0, none⟩ = some v1) (hp : Hid (p0 < b.heap.size ∧ p1 < b.heap.size)) :
    b.drew.cell? ⟨p0, 0, none⟩ = some v0 ∧ b.drew.cell? ⟨p1, 0, none⟩ = some v1 ∧ Below b.heap.size b b.drew ∧ b.heap.size + 0 ≤ b.drew.heap.size := by
  have n3 : Below b.heap.size b b := Below.refl _ _
  have hp := hp.out
  exact ⟨(n3.cell (by show p0 < _; omega)).trans e0, (n3.cell (by show p1 < _; omega)).trans e1, n3.drew, by show _ ≤ b.heap.size; omega⟩
theorem st3_0 {b : World} {p0 p1 p2 : Nat} {v0 v1 v2 : Value} {t : TypeId} (e0 : b.cell? ⟨p0, 0, none⟩ = some v0) (e1 : b.cell? ⟨p1, 0, none⟩ = some v1) (e2 : b.cell? ⟨p2, 0, none⟩ = some v2) (hp : Hid (p0 < b.heap.size ∧ p1 < b.heap.size ∧ p2 < b.heap.size)) :
    b.drew.cell? ⟨p0, 0, none⟩ = some v0 ∧ b.drew.cell? ⟨p1, 0, none⟩ = some v1 ∧ b.drew.cell? ⟨p2, 0, none⟩ = some v2 ∧ Below b.heap.size b b.drew ∧ b.heap.size + 0 ≤ b.drew.heap.size := by
  have n3 : Below b.heap.size b b := Below.refl _ _
  have hp := hp.out
  exact ⟨(n3.cell (by show p0 < _; omega)).trans e0, (n3.cell (by show p1 < _; omega)).trans e1, (n3.cell (by show p2 < _; omega)).trans e2, n3.drew, by show _ ≤ b.heap.size; omega⟩
theorem st4_0 {b : World} {p0 p1 p2 p3 : Nat} {v0 v1 v2 v3 : Value} {t : TypeId} (e0 : b.cell? ⟨p0, 0, none⟩ = some v0) (e1 : b.cell? ⟨p1, 0, none⟩ = some v1) (e2 : b.cell? ⟨p2, 0, none⟩ = some v2) (e3 : b.cell? ⟨p3, 0, none⟩ = some v3) (hp : Hid (p0 < b.heap.size ∧ p1 < b.heap.size ∧ p2 < b.heap.size ∧ p3 < b.heap.size)) :
    b.drew.cell? ⟨p0, 0, none⟩ = some v0 ∧ b.drew.cell? ⟨p1, 0, none⟩ = some v1 ∧ b.drew.cell? ⟨p2, 0, none⟩ = some v2 ∧ b.drew.cell? ⟨p3, 0, none⟩ = some v3 ∧ Below b.heap.size b b.drew ∧ b.heap.size + 0 ≤ b.drew.heap.size := by
  have n3 : Below b.heap.size b b := Below.refl _ _
  have hp := hp.out
  exact ⟨(n3.cell (by show p0 < _; omega)).trans e0, (n3.cell (by show p1 < _; omega)).trans e1, (n3.cell (by show p2 < _; omega)).trans e2, (n3.cell (by show p3 < _; omega)).trans e3, n3.drew, by show _ ≤ b.heap.size; omega⟩
theorem st5_0 {b : World} {p0 p1 p2 p3 p4 : Nat} {v0 v1 v2 v3 v4 : Value} {t : TypeId} (e0 : b.cell? ⟨p0, 0, none⟩ = some v0) (e1 : b.cell? ⟨p1, 0, none⟩ = some v1) (e2 : b.cell? ⟨p2, 0, none⟩ = some v2) (e3 : b.cell? ⟨p3, 0, none⟩ = some v3) (e4 : b.cell? ⟨p4, 0, none⟩ = some v4) (hp : Hid (p0 < b.heap.size ∧ p1 < b.heap.size ∧ p2 < b.heap.size ∧ p3 < b.heap.size ∧ p4 < b.heap.size)) :
    b.drew.cell? ⟨p0, 0, none⟩ = some v0 ∧ b.drew.cell? ⟨p1, 0, none⟩ = some v1 ∧ b.drew.cell? ⟨p2, 0, none⟩ = some v2 ∧ b.drew.cell? ⟨p3, 0, none⟩ = some v3 ∧ b.drew.cell? ⟨p4, 0, none⟩ = some v4 ∧ Below b.heap.size b b.drew ∧ b.heap.size + 0 ≤ b.drew.heap.size := by
  have n3 : Below b.heap.size b b := Below.refl _ _
  have hp := hp.out
  exact ⟨(n3.cell (by show p0 < _; omega)).trans e0, (n3.cell (by show p1 < _; omega)).trans e1, (n3.cell (by show p2 < _; omega)).trans e2, (n3.cell (by show p3 < _; omega)).trans e3, (n3.cell (by show p4 < _; omega)).trans e4, n3.drew, by show _ ≤ b.heap.size; omega⟩
theorem st6_0 {b : World} {p0 p1 p2 p3 p4 p5 : Nat} {v0 v1 v2 v3 v4 v5 : Value} {t : TypeId} (e0 : b.cell? ⟨p0, 0, none⟩ = some v0) (e1 : b.cell? ⟨p1, 0, none⟩ = some v1) (e2 : b.cell? ⟨p2, 0, none⟩ = some v2) (e3 : b.cell? ⟨p3, 0, none⟩ = some v3) (e4 : b.cell? ⟨p4, 0, none⟩ = some v4) (e5 : b.cell? ⟨p5, 0, none⟩ = some v5) (hp : Hid (p0 < b.heap.size ∧ p1 < b.heap.size ∧ p2 < b.heap.size ∧ p3 < b.heap.size ∧ p4 < b.heap.size ∧ p5 < b.heap.size)) :
    b.drew.cell? ⟨p0, 0, none⟩ = some v0 ∧ b.drew.cell? ⟨p1, 0, none⟩ = some v1 ∧ b.drew.cell? ⟨p2, 0, none⟩ = some v2 ∧ b.drew.cell? ⟨p3, 0, none⟩ = some v3 ∧ b.drew.cell? ⟨p4, 0, none⟩ = some v4 ∧ b.drew.cell? ⟨p5, 0, none⟩ = some v5 ∧ Below b.heap.size b b.drew ∧ b.heap.size + 0 ≤ b.drew.heap.size := by
  have n3 : Below b.heap.size b b := Below.refl _ _
  have hp := hp.out
  exact ⟨(n3.cell (by show p0 < _; omega)).trans e0, (n3.cell (by show p1 < _; omega)).trans e1, (n3.cell (by show p2 < _; omega)).trans e2, (n3.cell (by show p3 < _; omega)).trans e3, (n3.cell (by show p4 < _; omega)).trans e4, (n3.cell (by show p5 < _; omega)).trans e5, n3.drew, by show _ ≤ b.heap.size; omega⟩
theorem st7_0 {b : World} {p0 p1 p2 p3 p4 p5 p6 : Nat} {v0 v1 v2 v3 v4 v5 v6 : Value} {t : TypeId} (e0 : b.cell? ⟨p0, 0, none⟩ = some v0) (e1 : b.cell? ⟨p1, 0, none⟩ = some v1) (e2 : b.cell? ⟨p2, 0, none⟩ = some v2) (e3 : b.cell? ⟨p3, 0, none⟩ = some v3) (e4 : b.cell? ⟨p4, 0, none⟩ = some v4) (e5 : b.cell? ⟨p5, 0, none⟩ = some v5) (e6 : b.cell? ⟨p6, 0, none⟩ = some v6) (hp : Hid (p0 < b.heap.size ∧ p1 < b.heap.size ∧ p2 < b.heap.size ∧ p3 < b.heap.size ∧ p4 < b.heap.size ∧ p5 < b.heap.size ∧ p6 < b.heap.size)) :
    b.drew.cell? ⟨p0, 0, none⟩ = some v0 ∧ b.drew.cell? ⟨p1, 0, none⟩ = some v1 ∧ b.drew.cell? ⟨p2, 0, none⟩ = some v2 ∧ b.drew.cell? ⟨p3, 0, none⟩ = some v3 ∧ b.drew.cell? ⟨p4, 0, none⟩ = some v4 ∧ b.drew.cell? ⟨p5, 0, none⟩ = some v5 ∧ b.drew.cell? ⟨p6, 0, none⟩ = some v6 ∧ Below b.heap.size b b.drew ∧ b.heap.size + 0 ≤ b.drew.heap.size := by
  have n3 : Below b.heap.size b b := Below.refl _ _
  have hp := hp.out
  exact ⟨(n3.cell (by show p0 < _; omega)).trans e0, (n3.cell (by show p1 < _; omega)).trans e1, (n3.cell (by show p2 < _; omega)).trans e2, (n3.cell (by show p3 < _; omega)).trans e3, (n3.cell (by show p4 < _; omega)).trans e4, (n3.cell (by show p5 < _; omega)).trans e5, (n3.cell (by show p6 < _; omega)).trans e6, n3.drew, by show _ ≤ b.heap.size; omega⟩
theorem st8_0 {b : World} {p0 p1 p2 p3 p4 p5 p6 p7 : Nat} {v0 v1 v2 v3 v4 v5 v6 v7 : Value} {t : TypeId} (e0 : b.cell? ⟨p0, 0, none⟩ = some v0) (e1 : b.cell? ⟨p1, 0, none⟩ = some v1) (e2 : b.cell? ⟨p2, 0, none⟩ = some v2) (e3 : b.cell? ⟨p3, 0, none⟩ = some v3) (e4 : b.cell? ⟨p4, 0, none⟩ = some v4) (e5 : b.cell? ⟨p5, 0, none⟩ = some v5) (e6 : b.cell? ⟨p6, 0, none⟩ = some v6) (e7 : b.cell? ⟨p7, 0, none⟩ = some v7) (hp : Hid (p0 < b.heap.size ∧ p1 < b.heap.size ∧ p2 < b.heap.size ∧ p3 < b.heap.size ∧ p4 < b.heap.size ∧ p5 < b.heap.size ∧ p6 < b.heap.size ∧ p7 < b.heap.size)) :
    b.drew.cell? ⟨p0, 0, none⟩ = some v0 ∧ b.drew.cell? ⟨p1, 0, none⟩ = some v1 ∧ b.drew.cell? ⟨p2, 0, none⟩ = some v2 ∧ b.drew.cell? ⟨p3, 0, none⟩ = some v3 ∧ b.drew.cell? ⟨p4, 0, none⟩ = some v4 ∧ b.drew.cell? ⟨p5, 0, none⟩ = some v5 ∧ b.drew.cell? ⟨p6, 0, none⟩ = some v6 ∧ b.drew.cell? ⟨p7, 0, none⟩ = some v7 ∧ Below b.heap.size b b.drew ∧ b.heap.size + 0 ≤ b.drew.heap.size := by
  have n3 : Below b.heap.size b b := Below.refl _ _
  have hp := hp.out
  exact ⟨(n3.cell (by show p0 < _; omega)).trans e0, (n3.cell (by show p1 < _; omega)).trans e1, (n3.cell (by show p2 < _; omega)).trans e2, (n3.cell (by show p3 < _; omega)).trans e3, (n3.cell (by show p4 < _; omega)).trans e4, (n3.cell (by show p5 < _; omega)).trans e5, (n3.cell (by show p6 < _; omega)).trans e6, (n3.cell (by show p7 < _; omega)).trans e7, n3.drew, by show _ ≤ b.heap.size; omega⟩
theorem st1_1 {b : World} {p0 : Nat} {v0 v1 : Value} {t : TypeId} (e0 : b.cell? ⟨p0, 0, none⟩ = some v0) (hp : Hid (p0 < b.heap.size)) :
    (b.alloc (.cells #[v1] t)).drew.cell? ⟨p0, 0, none⟩ = some v0 ∧ (b.alloc (.cells #[v1] t)).drew.cell? ⟨b.heap.size, 0, none⟩ = some v1 ∧ Below b.heap.size b (b.alloc (.cells #[v1] t)).drew ∧ b.heap.size + 1 ≤ (b.alloc (.cells #[v1] t)).drew.heap.size := by
  obtain ⟨n0, n3, n4⟩ := new1 b v1 t
  have hp := hp.out
  exact ⟨(n3.cell (by show p0 < _; omega)).trans e0, n0, n3.drew, by show _ ≤ (b.alloc (.cells #[v1] t)).heap.size; omega⟩
theorem st2_1 {b : World} {p0 p1 : Nat} {v0 v1 v2 : Value} {t : TypeId} (e0 : b.cell? ⟨p0, 0, none⟩ = some v0) (e1 : b.cell? ⟨p1, 0, none⟩ = some v1) (hp : Hid (p0 < b.heap.size ∧ p1 < b.heap.size)) :
    (b.alloc (.cells #[v2] t)).drew.cell? ⟨p0, 0, none⟩ = some v0 ∧ (b.alloc (.cells #[v2] t)).drew.cell? ⟨p1, 0, none⟩ = some v1 ∧ (b.alloc (.cells #[v2] t)).drew.cell? ⟨b.heap.size, 0, none⟩ = some v2 ∧ Below b.heap.size b (b.alloc (.cells #[v2] t)).drew ∧ b.heap.size + 1 ≤ (b.alloc (.cells #[v2] t)).drew.heap.size := by
  obtain ⟨n0, n3, n4⟩ := new1 b v2 t
  have hp := hp.out
  exact ⟨(n3.cell (by show p0 < _; omega)).trans e0, (n3.cell (by show p1 < _; omega)).trans e1, n0, n3.drew, by show _ ≤ (b.alloc (.cells #[v2] t)).heap.size; omega⟩
theorem st3_1 {b : World} {p0 p1 p2 : Nat} {v0 v1 v2 v3 : Value} {t : TypeId} (e0 : b.cell? ⟨p0, 0, none⟩ = some v0) (e1 : b.cell? ⟨p1, 0, none⟩ = some v1) (e2 : b.cell? ⟨p2, 0, none⟩ = some v2) (hp : Hid (p0 < b.heap.size ∧ p1 < b.heap.size ∧ p2 < b.heap.size)) :
    (b.alloc (.cells #[v3] t)).drew.cell? ⟨p0, 0, none⟩ = some v0 ∧ (b.alloc (.cells #[v3] t)).drew.cell? ⟨p1, 0, none⟩ = some v1 ∧ (b.alloc (.cells #[v3] t)).drew.cell? ⟨p2, 0, none⟩ = some v2 ∧ (b.alloc (.cells #[v3] t)).drew.cell? ⟨b.heap.size, 0, none⟩ = some v3 ∧ Below b.heap.size b (b.alloc (.cells #[v3] t)).drew ∧ b.heap.size + 1 ≤ (b.alloc (.cells #[v3] t)).drew.heap.size := by
  obtain ⟨n0, n3, n4⟩ := new1 b v3 t
  have hp := hp.out
  exact ⟨(n3.cell (by show p0 < _; omega)).trans e0, (n3.cell (by show p1 < _; omega)).trans e1, (n3.cell (by show p2 < _; omega)).trans e2, n0, n3.drew, by show _ ≤ (b.alloc (.cells #[v3] t)).heap.size; omega⟩
theorem st4_1 {b : World} {p0 p1 p2 p3 : Nat} {v0 v1 v2 v3 v4 : Value} {t : TypeId} (e0 : b.cell? ⟨p0, 0, none⟩ = some v0) (e1 : b.cell? ⟨p1, 0, none⟩ = some v1) (e2 : b.cell? ⟨p2, 0, none⟩ = some v2) (e3 : b.cell? ⟨p3, 0, none⟩ = some v3) (hp : Hid (p0 < b.heap.size ∧ p1 < b.heap.size ∧ p2 < b.heap.size ∧ p3 < b.heap.size)) :
    (b.alloc (.cells #[v4] t)).drew.cell? ⟨p0, 0, none⟩ = some v0 ∧ (b.alloc (.cells #[v4] t)).drew.cell? ⟨p1, 0, none⟩ = some v1 ∧ (b.alloc (.cells #[v4] t)).drew.cell? ⟨p2, 0, none⟩ = some v2 ∧ (b.alloc (.cells #[v4] t)).drew.cell? ⟨p3, 0, none⟩ = some v3 ∧ (b.alloc (.cells #[v4] t)).drew.cell? ⟨b.heap.size, 0, none⟩ = some v4 ∧ Below b.heap.size b (b.alloc (.cells #[v4] t)).drew ∧ b.heap.size + 1 ≤ (b.alloc (.cells #[v4] t)).drew.heap.size := by
  obtain ⟨n0, n3, n4⟩ := new1 b v4 t
  have hp := hp.out
  exact ⟨(n3.cell (by show p0 < _; omega)).trans e0, (n3.cell (by show p1 < _; omega)).trans e1, (n3.cell (by show p2 < _; omega)).trans e2, (n3.cell (by show p3 < _; omega)).trans e3, n0, n3.drew, by show _ ≤ (b.alloc (.cells #[v4] t)).heap.size; omega⟩
theorem st5_1 {b : World} {p0 p1 p2 p3 p4 : Nat} {v0 v1 v2 v3 v4 v5 : Value} {t : TypeId} (e0 : b.cell? ⟨p0, 0, none⟩ = some v0) (e1 : b.cell? ⟨p1, 0, none⟩ = some v1) (e2 : b.cell? ⟨p2, 0, none⟩ = some v2) (e3 : b.cell? ⟨p3, 0, none⟩ = some v3) (e4 : b.cell? ⟨p4, 0, none⟩ = some v4) (hp : Hid (p0 < b.heap.size ∧ p1 < b.heap.size ∧ p2 < b.heap.size ∧ p3 < b.heap.size ∧ p4 < b.heap.size)) :
    (b.alloc (.cells #[v5] t)).drew.cell? ⟨p0, 0, none⟩ = some v0 ∧ (b.alloc (.cells #[v5] t)).drew.cell? ⟨p1, 0, none⟩ = some v1 ∧ (b.alloc (.cells #[v5] t)).drew.cell? ⟨p2, 0, none⟩ = some v2 ∧ (b.alloc (.cells #[v5] t)).drew.cell? ⟨p3, 0, none⟩ = some v3 ∧ (b.alloc (.cells #[v5] t)).drew.cell? ⟨p4, 0, none⟩ = some v4 ∧ (b.alloc (.cells #[v5] t)).drew.cell? ⟨b.heap.size, 0, none⟩ = some v5 ∧ Below b.heap.size b (b.alloc (.cells #[v5] t)).drew ∧ b.heap.size + 1 ≤ (b.alloc (.cells #[v5] t)).drew.heap.size := by
  obtain ⟨n0, n3, n4⟩ := new1 b v5 t
  have hp := hp.out
  exact ⟨(n3.cell (by show p0 < _; omega)).trans e0, (n3.cell (by show p1 < _; omega)).trans e1, (n3.cell (by show p2 < _; omega)).trans e2, (n3.cell (by show p3 < _; omega)).trans e3, (n3.cell (by show p4 < _; omega)).trans e4, n0, n3.drew, by show _ ≤ (b.alloc (.cells #[v5] t)).heap.size; omega⟩
theorem st6_1 {b : World} {p0 p1 p2 p3 p4 p5 : Nat} {v0 v1 v2 v3 v4 v5 v6 : Value} {t : TypeId} (e0 : b.cell? ⟨p0, 0, none⟩ = some v0) (e1 : b.cell? ⟨p1, 0, none⟩ = some v1) (e2 : b.cell? ⟨p2, 0, none⟩ = some v2) (e3 : b.cell? ⟨p3, 0, none⟩ = some v3) (e4 : b.cell? ⟨p4, 0, none⟩ = some v4) (e5 : b.cell? ⟨p5, 0, none⟩ = some v5) (hp : Hid (p0 < b.heap.size ∧ p1 < b.heap.size ∧ p2 < b.heap.size ∧ p3 < b.heap.size ∧ p4 < b.heap.size ∧ p5 < b.heap.size)) :
    (b.alloc (.cells #[v6] t)).drew.cell? ⟨p0, 0, none⟩ = some v0 ∧ (b.alloc (.cells #[v6] t)).drew.cell? ⟨p1, 0, none⟩ = some v1 ∧ (b.alloc (.cells #[v6] t)).drew.cell? ⟨p2, 0, none⟩ = some v2 ∧ (b.alloc (.cells #[v6] t)).drew.cell? ⟨p3, 0, none⟩ = some v3 ∧ (b.alloc (.cells #[v6] t)).drew.cell? ⟨p4, 0, none⟩ = some v4 ∧ (b.alloc (.cells #[v6] t)).drew.cell? ⟨p5, 0, none⟩ = some v5 ∧ (b.alloc (.cells #[v6] t)).drew.cell? ⟨b.heap.size, 0, none⟩ = some v6 ∧ Below b.heap.size b (b.alloc (.cells #[v6] t)).drew ∧ b.heap.size + 1 ≤ (b.alloc (.cells #[v6] t)).drew.heap.size := by
  obtain ⟨n0, n3, n4⟩ := new1 b v6 t
  have hp := hp.out
  exact ⟨(n3.cell (by show p0 < _; omega)).trans e0, (n3.cell (by show p1 < _; omega)).trans e1, (n3.cell (by show p2 < _; omega)).trans e2, (n3.cell (by show p3 < _; omega)).trans e3, (n3.cell (by show p4 < _; omega)).trans e4, (n3.cell (by show p5 < _; omega)).trans e5, n0, n3.drew, by show _ ≤ (b.alloc (.cells #[v6] t)).heap.size; omega⟩
theorem st7_1 {b : World} {p0 p1 p2 p3 p4 p5 p6 : Nat} {v0 v1 v2 v3 v4 v5 v6 v7 : Value} {t : TypeId} (e0 : b.cell? ⟨p0, 0, none⟩ = some v0) (e1 : b.cell? ⟨p1, 0, none⟩ = some v1) (e2 : b.cell? ⟨p2, 0, none⟩ = some v2) (e3 : b.cell? ⟨p3, 0, none⟩ = some v3) (e4 : b.cell? ⟨p4, 0, none⟩ = some v4) (e5 : b.cell? ⟨p5, 0, none⟩ = some v5) (e6 : b.cell? ⟨p6, 0, none⟩ = some v6) (hp : Hid (p0 < b.heap.size ∧ p1 < b.heap.size ∧ p2 < b.heap.size ∧ p3 < b.heap.size ∧ p4 < b.heap.size ∧ p5 < b.heap.size ∧ p6 < b.heap.size)) :
    (b.alloc (.cells #[v7] t)).drew.cell? ⟨p0, 0, none⟩ = some v0 ∧ (b.alloc (.cells #[v7] t)).drew.cell? ⟨p1, 0, none⟩ = some v1 ∧ (b.alloc (.cells #[v7] t)).drew.cell? ⟨p2, 0, none⟩ = some v2 ∧ (b.alloc (.cells #[v7] t)).drew.cell? ⟨p3, 0, none⟩ = some v3 ∧ (b.alloc (.cells #[v7] t)).drew.cell? ⟨p4, 0, none⟩ = some v4 ∧ (b.alloc (.cells #[v7] t)).drew.cell? ⟨p5, 0, none⟩ = some v5 ∧ (b.alloc (.cells #[v7] t)).drew.cell? ⟨p6, 0, none⟩ = some v6 ∧ (b.alloc (.cells #[v7] t)).drew.cell? ⟨b.heap.size, 0, none⟩ = some v7 ∧ Below b.heap.size b (b.alloc (.cells #[v7] t)).drew ∧ b.heap.size + 1 ≤ (b.alloc (.cells #[v7] t)).drew.heap.size := by
  obtain ⟨n0, n3, n4⟩ := new1 b v7 t
  have hp := hp.out
  exact ⟨(n3.cell (by show p0 < _; omega)).trans e0, (n3.cell (by show p1 < _; omega)).trans e1, (n3.cell (by show p2 < _; omega)).trans e2, (n3.cell (by show p3 < _; omega)).trans e3, (n3.cell (by show p4 < _; omega)).trans e4, (n3.cell (by show p5 < _; omega)).trans e5, (n3.cell (by show p6 < _; omega)).trans e6, n0, n3.drew, by show _ ≤ (b.alloc (.cells #[v7] t)).heap.size; omega⟩
theorem st8_1 {b : World} {p0 p1 p2 p3 p4 p5 p6 p7 : Nat} {v0 v1 v2 v3 v4 v5 v6 v7 v8 : Value} {t : TypeId} (e0 : b.cell? ⟨p0, 0, none⟩ = some v0) (e1 : b.cell? ⟨p1, 0, none⟩ = some v1) (e2 : b.cell? ⟨p2, 0, none⟩ = some v2) (e3 : b.cell? ⟨p3, 0, none⟩ = some v3) (e4 : b.cell? ⟨p4, 0, none⟩ = some v4) (e5 : b.cell? ⟨p5, 0, none⟩ = some v5) (e6 : b.cell? ⟨p6, 0, none⟩ = some v6) (e7 : b.cell? ⟨p7, 0, none⟩ = some v7) (hp : Hid (p0 < b.heap.size ∧ p1 < b.heap.size ∧ p2 < b.heap.size ∧ p3 < b.heap.size ∧ p4 < b.heap.size ∧ p5 < b.heap.size ∧ p6 < b.heap.size ∧ p7 < b.heap.size)) :
    (b.alloc (.cells #[v8] t)).drew.cell? ⟨p0, 0, none⟩ = some v0 ∧ (b.alloc (.cells #[v8] t)).drew.cell? ⟨p1, 0, none⟩ = some v1 ∧ (b.alloc (.cells #[v8] t)).drew.cell? ⟨p2, 0, none⟩ = some v2 ∧ (b.alloc (.cells #[v8] t)).drew.cell? ⟨p3, 0, none⟩ = some v3 ∧ (b.alloc (.cells #[v8] t)).drew.cell? ⟨p4, 0, none⟩ = some v4 ∧ (b.alloc (.cells #[v8] t)).drew.cell? ⟨p5, 0, none⟩ = some v5 ∧ (b.alloc (.cells #[v8] t)).drew.cell? ⟨p6, 0, none⟩ = some v6 ∧ (b.alloc (.cells #[v8] t)).drew.cell? ⟨p7, 0, none⟩ = some v7 ∧ (b.alloc (.cells #[v8] t)).drew.cell? ⟨b.heap.size, 0, none⟩ = some v8 ∧ Below b.heap.size b (b.alloc (.cells #[v8] t)).drew ∧ b.heap.size + 1 ≤ (b.alloc (.cells #[v8] t)).drew.heap.size := by
  obtain ⟨n0, n3, n4⟩ := new1 b v8 t
  have hp := hp.out
  exact ⟨(n3.cell (by show p0 < _; omega)).trans e0, (n3.cell (by show p1 < _; omega)).trans e1, (n3.cell (by show p2 < _; omega)).trans e2, (n3.cell (by show p3 < _; omega)).trans e3, (n3.cell (by show p4 < _; omega)).trans e4, (n3.cell (by show p5 < _; omega)).trans e5, (n3.cell (by show p6 < _; omega)).trans e6, (n3.cell (by show p7 < _; omega)).trans e7, n0, n3.drew, by show _ ≤ (b.alloc (.cells #[v8] t)).heap.size; omega⟩
theorem st1_2 {b : World} {p0 : Nat} {v0 v1 v2 : Value} {t : TypeId} (e0 : b.cell? ⟨p0, 0, none⟩ = some v0) (hp : Hid (p0 < b.heap.size)) :
    ((b.alloc (.cells #[v1] t)).alloc (.cells #[v2] t)).drew.cell? ⟨p0, 0, none⟩ = some v0 ∧ ((b.alloc (.cells #[v1] t)).alloc (.cells #[v2] t)).drew.cell? ⟨b.heap.size, 0, none⟩ = some v1 ∧ ((b.alloc (.cells #[v1] t)).alloc (.cells #[v2] t)).drew.cell? ⟨b.heap.size + 1, 0, none⟩ = some v2 ∧ Below b.heap.size b ((b.alloc (.cells #[v1] t)).alloc (.cells #[v2] t)).drew ∧ b.heap.size + 2 ≤ ((b.alloc (.cells #[v1] t)).alloc (.cells #[v2] t)).drew.heap.size := by
  obtain ⟨n0, n1, n3, n4⟩ := new2 b v1 v2 t
  have hp := hp.out
  exact ⟨(n3.cell (by show p0 < _; omega)).trans e0, n0, n1, n3.drew, by show _ ≤ ((b.alloc (.cells #[v1] t)).alloc (.cells #[v2] t)).heap.size; omega⟩
theorem st2_2 {b : World} {p0 p1 : Nat} {v0 v1 v2 v3 : Value} {t : TypeId} (e0 : b.cell? ⟨p0, 0, none⟩ = some v0) (e1 : b.cell? ⟨p1, 0, none⟩ = some v1) (hp : Hid (p0 < b.heap.size ∧ p1 < b.heap.size)) :
    ((b.alloc (.cells #[v2] t)).alloc (.cells #[v3] t)).drew.cell? ⟨p0, 0, none⟩ = some v0 ∧ ((b.alloc (.cells #[v2] t)).alloc (.cells #[v3] t)).drew.cell? ⟨p1, 0, none⟩ = some v1 ∧ ((b.alloc (.cells #[v2] t)).alloc (.cells #[v3] t)).drew.cell? ⟨b.heap.size, 0, none⟩ = some v2 ∧ ((b.alloc (.cells #[v2] t)).alloc (.cells #[v3] t)).drew.cell? ⟨b.heap.size + 1, 0, none⟩ = some v3 ∧ Below b.heap.size b ((b.alloc (.cells #[v2] t)).alloc (.cells #[v3] t)).drew ∧ b.heap.size + 2 ≤ ((b.alloc (.cells #[v2] t)).alloc (.cells #[v3] t)).drew.heap.size := by
  obtain ⟨n0, n1, n3, n4⟩ := new2 b v2 v3 t
  have hp := hp.out
  exact ⟨(n3.cell (by show p0 < _; omega)).trans e0, (n3.cell (by show p1 < _; omega)).trans e1, n0, n1, n3.drew, by show _ ≤ ((b.alloc (.cells #[v2] t)).alloc (.cells #[v3] t)).heap.size; omega⟩
theorem st3_2 {b : World} {p0 p1 p2 : Nat} {v0 v1 v2 v3 v4 : Value} {t : TypeId} (e0 : b.cell? ⟨p0, 0, none⟩ = some v0) (e1 : b.cell? ⟨p1, 0, none⟩ = some v1) (e2 : b.cell? ⟨p2, 0, none⟩ = some v2) (hp : Hid (p0 < b.heap.size ∧ p1 < b.heap.size ∧ p2 < b.heap.size)) :
    ((b.alloc (.cells #[v3] t)).alloc (.cells #[v4] t)).drew.cell? ⟨p0, 0, none⟩ = some v0 ∧ ((b.alloc (.cells #[v3] t)).alloc (.cells #[v4] t)).drew.cell? ⟨p1, 0, none⟩ = some v1 ∧ ((b.alloc (.cells #[v3] t)).alloc (.cells #[v4] t)).drew.cell? ⟨p2, 0, none⟩ = some v2 ∧ ((b.alloc (.cells #[v3] t)).alloc (.cells #[v4] t)).drew.cell? ⟨b.heap.size, 0, none⟩ = some v3 ∧ ((b.alloc (.cells #[v3] t)).alloc (.cells #[v4] t)).drew.cell? ⟨b.heap.size + 1, 0, none⟩ = some v4 ∧ Below b.heap.size b ((b.alloc (.cells #[v3] t)).alloc (.cells #[v4] t)).drew ∧ b.heap.size + 2 ≤ ((b.alloc (.cells #[v3] t)).alloc (.cells #[v4] t)).drew.heap.size := by
  obtain ⟨n0, n1, n3, n4⟩ := new2 b v3 v4 t
  have hp := hp.out
  exact ⟨(n3.cell (by show p0 < _; omega)).trans e0, (n3.cell (by show p1 < _; omega)).trans e1, (n3.cell (by show p2 < _; omega)).trans e2, n0, n1, n3.drew, by show _ ≤ ((b.alloc (.cells #[v3] t)).alloc (.cells #[v4] t)).heap.size; omega⟩
theorem st4_2 {b : World} {p0 p1 p2 p3 : Nat} {v0 v1 v2 v3 v4 v5 : Value} {t : TypeId} (e0 : b.cell? ⟨p0, 0, none⟩ = some v0) (e1 : b.cell? ⟨p1, 0, none⟩ = some v1) (e2 : b.cell? ⟨p2, 0, none⟩ = some v2) (e3 : b.cell? ⟨p3, 0, none⟩ = some v3) (hp : Hid (p0 < b.heap.size ∧ p1 < b.heap.size ∧ p2 < b.heap.size ∧ p3 < b.heap.size)) :
    ((b.alloc (.cells #[v4] t)).alloc (.cells #[v5] t)).drew.cell? ⟨p0, 0, none⟩ = some v0 ∧ ((b.alloc (.cells #[v4] t)).alloc (.cells #[v5] t)).drew.cell? ⟨p1, 0, none⟩ = some v1 ∧ ((b.alloc (.cells #[v4] t)).alloc (.cells #[v5] t)).drew.cell? ⟨p2, 0, none⟩ = some v2 ∧ ((b.alloc (.cells #[v4] t)).alloc (.cells #[v5] t)).drew.cell? ⟨p3, 0, none⟩ = some v3 ∧ ((b.alloc (.cells #[v4] t)).alloc (.cells #[v5] t)).drew.cell? ⟨b.heap.size, 0, none⟩ = some v4 ∧ ((b.alloc (.cells #[v4] t)).alloc (.cells #[v5] t)).drew.cell? ⟨b.heap.size + 1, 0, none⟩ = some v5 ∧ Below b.heap.size b ((b.alloc (.cells #[v4] t)).alloc (.cells #[v5] t)).drew ∧ b.heap.size + 2 ≤ ((b.alloc (.cells #[v4] t)).alloc (.cells #[v5] t)).drew.heap.size := by
  obtain ⟨n0, n1, n3, n4⟩ := new2 b v4 v5 t
  have hp := hp.out
  exact ⟨(n3.cell (by show p0 < _; omega)).trans e0, (n3.cell (by show p1 < _; omega)).trans e1, (n3.cell (by show p2 < _; omega)).trans e2, (n3.cell (by show p3 < _; omega)).trans e3, n0, n1, n3.drew, by show _ ≤ ((b.alloc (.cells #[v4] t)).alloc (.cells #[v5] t)).heap.size; omega⟩
theorem st5_2 {b : World} {p0 p1 p2 p3 p4 : Nat} {v0 v1 v2 v3 v4 v5 v6 : Value} {t : TypeId} (e0 : b.cell? ⟨p0, 0, none⟩ = some v0) (e1 : b.cell? ⟨p1, 0, none⟩ = some v1) (e2 : b.cell? ⟨p2, 0, none⟩ = some v2) (e3 : b.cell? ⟨p3, 0, none⟩ = some v3) (e4 : b.cell? ⟨p4, 0, none⟩ = some v4) (hp : Hid (p0 < b.heap.size ∧ p1 < b.heap.size ∧ p2 < b.heap.size ∧ p3 < b.heap.size ∧ p4 < b.heap.size)) :
    ((b.alloc (.cells #[v5] t)).alloc (.cells #[v6] t)).drew.cell? ⟨p0, 0, none⟩ = some v0 ∧ ((b.alloc (.cells #[v5] t)).alloc (.cells #[v6] t)).drew.cell? ⟨p1, 0, none⟩ = some v1 ∧ ((b.alloc (.cells #[v5] t)).alloc (.cells #[v6] t)).drew.cell? ⟨p2, 0, none⟩ = some v2 ∧ ((b.alloc (.cells #[v5] t)).alloc (.cells #[v6] t)).drew.cell? ⟨p3, 0, none⟩ = some v3 ∧ ((b.alloc (.cells #[v5] t)).alloc (.cells #[v6] t)).drew.cell? ⟨p4, 0, none⟩ = some v4 ∧ ((b.alloc (.cells #[v5] t)).alloc (.cells #[v6] t)).drew.cell? ⟨b.heap.size, 0, none⟩ = some v5 ∧ ((b.alloc (.cells #[v5] t)).alloc (.cells #[v6] t)).drew.cell? ⟨b.heap.size + 1, 0, none⟩ = some v6 ∧ Below b.heap.size b ((b.alloc (.cells #[v5] t)).alloc (.cells #[v6] t)).drew ∧ b.heap.size + 2 ≤ ((b.alloc (.cells #[v5] t)).alloc (.cells #[v6] t)).drew.heap.size := by
  obtain ⟨n0, n1, n3, n4⟩ := new2 b v5 v6 t
  have hp := hp.out
  exact ⟨(n3.cell (by show p0 < _; omega)).trans e0, (n3.cell (by show p1 < _; omega)).trans e1, (n3.cell (by show p2 < _; omega)).trans e2, (n3.cell (by show p3 < _; omega)).trans e3, (n3.cell (by show p4 < _; omega)).trans e4, n0, n1, n3.drew, by show _ ≤ ((b.alloc (.cells #[v5] t)).alloc (.cells #[v6] t)).heap.size; omega⟩
theorem st6_2 {b : World} {p0 p1 p2 p3 p4 p5 : Nat} {v0 v1 v2 v3 v4 v5 v6 v7 : Value} {t : TypeId} (e0 : b.cell? ⟨p0, 0, none⟩ = some v0) (e1 : b.cell? ⟨p1, 0, none⟩ = some v1) (e2 : b.cell? ⟨p2, 0, none⟩ = some v2) (e3 : b.cell? ⟨p3, 0, none⟩ = some v3) (e4 : b.cell? ⟨p4, 0, none⟩ = some v4) (e5 : b.cell? ⟨p5, 0, none⟩ = some v5) (hp : Hid (p0 < b.heap.size ∧ p1 < b.heap.size ∧ p2 < b.heap.size ∧ p3 < b.heap.size ∧ p4 < b.heap.size ∧ p5 < b.heap.size)) :
    ((b.alloc (.cells #[v6] t)).alloc (.cells #[v7] t)).drew.cell? ⟨p0, 0, none⟩ = some v0 ∧ ((b.alloc (.cells #[v6] t)).alloc (.cells #[v7] t)).drew.cell? ⟨p1, 0, none⟩ = some v1 ∧ ((b.alloc (.cells #[v6] t)).alloc (.cells #[v7] t)).drew.cell? ⟨p2, 0, none⟩ = some v2 ∧ ((b.alloc (.cells #[v6] t)).alloc (.cells #[v7] t)).drew.cell? ⟨p3, 0, none⟩ = some v3 ∧ ((b.alloc (.cells #[v6] t)).alloc (.cells #[v7] t)).drew.cell? ⟨p4, 0, none⟩ = some v4 ∧ ((b.alloc (.cells #[v6] t)).alloc (.cells #[v7] t)).drew.cell? ⟨p5, 0, none⟩ = some v5 ∧ ((b.alloc (.cells #[v6] t)).alloc (.cells #[v7] t)).drew.cell? ⟨b.heap.size, 0, none⟩ = some v6 ∧ ((b.alloc (.cells #[v6] t)).alloc (.cells #[v7] t)).drew.cell? ⟨b.heap.size + 1, 0, none⟩ = some v7 ∧ Below b.heap.size b ((b.alloc (.cells #[v6] t)).alloc (.cells #[v7] t)).drew ∧ b.heap.size + 2 ≤ ((b.alloc (.cells #[v6] t)).alloc (.cells #[v7] t)).drew.heap.size := by
  obtain ⟨n0, n1, n3, n4⟩ := new2 b v6 v7 t
  have hp := hp.out
  exact ⟨(n3.cell (by show p0 < _; omega)).trans e0, (n3.cell (by show p1 < _; omega)).trans e1, (n3.cell (by show p2 < _; omega)).trans e2, (n3.cell (by show p3 < _; omega)).trans e3, (n3.cell (by show p4 < _; omega)).trans e4, (n3.cell (by show p5 < _; omega)).trans e5, n0, n1, n3.drew, by show _ ≤ ((b.alloc (.cells #[v6] t)).alloc (.cells #[v7] t)).heap.size; omega⟩
theorem st7_2 {b : World} {p0 p1 p2 p3 p4 p5 p6 : Nat} {v0 v1 v2 v3 v4 v5 v6 v7 v8 : Value} {t : TypeId} (e0 : b.cell? ⟨p0, 0, none⟩ = some v0) (e1 : b.cell? ⟨p1, 0, none⟩ = some v1) (e2 : b.cell? ⟨p2, 0, none⟩ = some v2) (e3 : b.cell? ⟨p3, 0, none⟩ = some v3) (e4 : b.cell? ⟨p4, 0, none⟩ = some v4) (e5 : b.cell? ⟨p5, 0, none⟩ = some v5) (e6 : b.cell? ⟨p6, 0, none⟩ = some v6) (hp : Hid (p0 < b.heap.size ∧ p1 < b.heap.size ∧ p2 < b.heap.size ∧ p3 < b.heap.size ∧ p4 < b.heap.size ∧ p5 < b.heap.size ∧ p6 < b.heap.size)) :
    ((b.alloc (.cells #[v7] t)).alloc (.cells #[v8] t)).drew.cell? ⟨p0, 0, none⟩ = some v0 ∧ ((b.alloc (.cells #[v7] t)).alloc (.cells #[v8] t)).drew.cell? ⟨p1, 0, none⟩ = some v1 ∧ ((b.alloc (.cells #[v7] t)).alloc (.cells #[v8] t)).drew.cell? ⟨p2, 0, none⟩ = some v2 ∧ ((b.alloc (.cells #[v7] t)).alloc (.cells #[v8] t)).drew.cell? ⟨p3, 0, none⟩ = some v3 ∧ ((b.alloc (.cells #[v7] t)).alloc (.cells #[v8] t)).drew.cell? ⟨p4, 0, none⟩ = some v4 ∧ ((b.alloc (.cells #[v7] t)).alloc (.cells #[v8] t)).drew.cell? ⟨p5, 0, none⟩ = some v5 ∧ ((b.alloc (.cells #[v7] t)).alloc (.cells #[v8] t)).drew.cell? ⟨p6, 0, none⟩ = some v6 ∧ ((b.alloc (.cells #[v7] t)).alloc (.cells #[v8] t)).drew.cell? ⟨b.heap.size, 0, none⟩ = some v7 ∧ ((b.alloc (.cells #[v7] t)).alloc (.cells #[v8] t)).drew.cell? ⟨b.heap.size + 1, 0, none⟩ = some v8 ∧ Below b.heap.size b ((b.alloc (.cells #[v7] t)).alloc (.cells #[v8] t)).drew ∧ b.heap.size + 2 ≤ ((b.alloc (.cells #[v7] t)).alloc (.cells #[v8] t)).drew.heap.size := by
  obtain ⟨n0, n1, n3, n4⟩ := new2 b v7 v8 t
  have hp := hp.out
  exact ⟨(n3.cell (by show p0 < _; omega)).trans e0, (n3.cell (by show p1 < _; omega)).trans e1, (n3.cell (by show p2 < _; omega)).trans e2, (n3.cell (by show p3 < _; omega)).trans e3, (n3.cell (by show p4 < _; omega)).trans e4, (n3.cell (by show p5 < _; omega)).trans e5, (n3.cell (by show p6 < _; omega)).trans e6, n0, n1, n3.drew, by show _ ≤ ((b.alloc (.cells #[v7] t)).alloc (.cells #[v8] t)).heap.size; omega⟩
theorem st8_2 {b : World} {p0 p1 p2 p3 p4 p5 p6 p7 : Nat} {v0 v1 v2 v3 v4 v5 v6 v7 v8 v9 : Value} {t : TypeId} (e0 : b.cell? ⟨p0, 0, none⟩ = some v0) (e1 : b.cell? ⟨p1, 0, none⟩ = some v1) (e2 : b.cell? ⟨p2, 0, none⟩ = some v2) (e3 : b.cell? ⟨p3, 0, none⟩ = some v3) (e4 : b.cell? ⟨p4, 0, none⟩ = some v4) (e5 : b.cell? ⟨p5, 0, none⟩ = some v5) (e6 : b.cell? ⟨p6, 0, none⟩ = some v6) (e7 : b.cell? ⟨p7, 0, none⟩ = some v7) (hp : Hid (p0 < b.heap.size ∧ p1 < b.heap.size ∧ p2 < b.heap.size ∧ p3 < b.heap.size ∧ p4 < b.heap.size ∧ p5 < b.heap.size ∧ p6 < b.heap.size ∧ p7 < b.heap.size)) :
    ((b.alloc (.cells #[v8] t)).alloc (.cells #[v9] t)).drew.cell? ⟨p0, 0, none⟩ = some v0 ∧ ((b.alloc (.cells #[v8] t)).alloc (.cells #[v9] t)).drew.cell? ⟨p1, 0, none⟩ = some v1 ∧ ((b.alloc (.cells #[v8] t)).alloc (.cells #[v9] t)).drew.cell? ⟨p2, 0, none⟩ = some v2 ∧ ((b.alloc (.cells #[v8] t)).alloc (.cells #[v9] t)).drew.cell? ⟨p3, 0, none⟩ = some v3 ∧ ((b.alloc (.cells #[v8] t)).alloc (.cells #[v9] t)).drew.cell? ⟨p4, 0, none⟩ = some v4 ∧ ((b.alloc (.cells #[v8] t)).alloc (.cells #[v9] t)).drew.cell? ⟨p5, 0, none⟩ = some v5 ∧ ((b.alloc (.cells #[v8] t)).alloc (.cells #[v9] t)).drew.cell? ⟨p6, 0, none⟩ = some v6 ∧ ((b.alloc (.cells #[v8] t)).alloc (.cells #[v9] t)).drew.cell? ⟨p7, 0, none⟩ = some v7 ∧ ((b.alloc (.cells #[v8] t)).alloc (.cells #[v9] t)).drew.cell? ⟨b.heap.size, 0, none⟩ = some v8 ∧ ((b.alloc (.cells #[v8] t)).alloc (.cells #[v9] t)).drew.cell? ⟨b.heap.size + 1, 0, none⟩ = some v9 ∧ Below b.heap.size b ((b.alloc (.cells #[v8] t)).alloc (.cells #[v9] t)).drew ∧ b.heap.size + 2 ≤ ((b.alloc (.cells #[v8] t)).alloc (.cells #[v9] t)).drew.heap.size := by
  obtain ⟨n0, n1, n3, n4⟩ := new2 b v8 v9 t
  have hp := hp.out
  exact ⟨(n3.cell (by show p0 < _; omega)).trans e0, (n3.cell (by show p1 < _; omega)).trans e1, (n3.cell (by show p2 < _; omega)).trans e2, (n3.cell (by show p3 < _; omega)).trans e3, (n3.cell (by show p4 < _; omega)).trans e4, (n3.cell (by show p5 < _; omega)).trans e5, (n3.cell (by show p6 < _; omega)).trans e6, (n3.cell (by show p7 < _; omega)).trans e7, n0, n1, n3.drew, by show _ ≤ ((b.alloc (.cells #[v8] t)).alloc (.cells #[v9] t)).heap.size; omega⟩
end Go.Proofs.YtmiklffjffdkgaaGreatDoor
end
