/- Several texts in one, each with its own sentence and conditions. -/
import Derived.Test.YthdpojkeceoiiaaGreatDoorJu
import Derived.Test.YthdpojkeceoiiaaGreatDoorGOkc33
import Derived.Test.YthdpojkeceoiiaaGreatDoorGOkc0
import Derived.Test.YthdpojkeceoiiaaGreatDoorGOkc3
import Derived.Test.YthdpojkeceoiiaaGreatDoorGOkc17
import Derived.Sort.LotA
import Derived.Test.YthdpojkeceoiiaaGreatDoorGOkc1
import Derived.Sort.WalkA
import Derived.Shelf.GgSortFunc.SmallK
section
/- The law's small; Good as the document tells it. Conditions: lists that fit. -/
open Go.RowKit
set_option maxRecDepth 100000
namespace Go.Proofs.YthdpojkeceoiiaaGreatDoor
def smallQ (q : QL) : Bool := decide (q.1.length ≤ 12) && (decide (q.2.1.length ≤ 12) && decide (q.2.2.length ≤ 6))
def smallU (qs : List QL) : Bool := decide (qs.length ≤ 8) && qs.all smallQ
theorem all_takeQ {α : Type} {l : List α} {p : α → Bool} {k : Nat} {a : α} (h : l[k]? = some a) : (l.take (k + 1)).all p = ((l.take k).all p && p a) := by
  obtain ⟨hk, he⟩ := List.getElem?_eq_some_iff.1 h
  rw [List.take_succ_eq_append_getElem hk, List.all_append, he]; simp
theorem all_miss {α : Type} {l : List α} {p : α → Bool} {k : Nat} {a : α} (h : l[k]? = some a) (hp : p a = false) : l.all p = false := by
  rw [Bool.eq_false_iff]
  intro h2
  rw [List.all_eq_true.1 h2 a (List.mem_of_getElem? h)] at hp
  cases hp
set_option maxHeartbeats 8000000 in
theorem small_any {A : Option Addr} {n c : Nat} {qs : List QL} {w : World} (h : Qs w A qs) (hn : n = qs.length) (hl : n ≤ 140737488355328) (hf : ∀ q ∈ qs, q.1.length ≤ 140737488355328 ∧ q.2.1.length ≤ 140737488355328 ∧ q.2.2.length ≤ 140737488355328) : Calls Tryz.prog 15 #[.agg #[.slice A n c]] w (RetB w (smallU qs)) := by
  obtain ⟨W1, hW1⟩ : ∃ X, X = w.alloc (.cells #[.slice A n c] 26) := ⟨_, rfl⟩
  have HU : At W1 w.heap.size [.slice A n c] := by rw [hW1]; exact at_new0 _ _ _
  have HB : Bel w W1 := by rw [hW1]; exact (Bel.refl w).al _
  have HN := khide hn
  have HF := khide hf
  have HW := khide hW1
  have hu_0 := HU.c0; have hu_l := HU.lt
  clear hW1 hf
  by_cases h8 : 8 < n
  · have d0 : decide ((8 : Int) < (n : Int)) = true := decide_eq_true (by omega)
    have HV : Hid (smallU qs = false) := by unfold Hid smallU; rw [decide_eq_false (show ¬ qs.length ≤ 8 by omega)]; rfl
    clear hn
    go_enter Tryz.func15, Tryz.ntmps15
    go_upto_region 1 with fail
    rw [← HW.out]
    go_wp2
    go_ret
    exact ⟨ret_bool HV.out.symm, HB⟩
  · have d0 : decide ((8 : Int) < (n : Int)) = false := decide_eq_false (by omega)
    have HV0 : Hid (smallU qs = qs.all smallQ) := by unfold Hid smallU; rw [decide_eq_true (show qs.length ≤ 8 by omega)]; rfl
    have hn8 : n ≤ 8 := by omega
    clear hn
    replace h := h.up HB.hid
    go_enter Tryz.func15, Tryz.ntmps15
    go_upto_region 1 with fail
    rw [← HW.out]
    go_wp2_with fail
    clear hu_0 hu_l
    go_loopw [3] (fun iv wr => ∃ k : Nat, k ≤ n ∧ iv = .int .i64 (k : Int) ∧ Hid ((qs.take k).all smallQ = true) ∧ Hid (Below W1.heap.size W1 wr)) (fun iv _ => n - (intOf iv).toNat)
    case atStart => exact ⟨0, Nat.zero_le _, rfl, rfl, Below.refl _ _⟩
    case round =>
      obtain ⟨k, hk, rfl, HT, HBr⟩ := hrel
      have HUr := HU.up HBr
      have hu_0 := HUr.c0; have hu_l := HUr.lt
      by_cases hlt : k < n
      · obtain ⟨q, hq⟩ : ∃ q, qs[k]? = some q := ⟨qs[k]'(by rw [← HN.out]; exact hlt), List.getElem?_eq_getElem _⟩
        obtain ⟨ad, v1, v2, v3, rfl, had, a0, a1, a2, HQ⟩ := (h.up HBr).at_ hq
        obtain ⟨f1, f2, f3⟩ := HF.out q (List.mem_of_getElem? hq)
        obtain ⟨A1, c1, A2, c2, A3, c3, rfl, rfl, rfl, -⟩ := HQ.open_
        obtain ⟨x, hx⟩ : ∃ x, smallQ q = x := ⟨_, rfl⟩
        have HX : Hid ((qs.take (k + 1)).all smallQ = x) := by unfold Hid; rw [all_takeQ hq, HT.out, hx]; rfl
        have HY : Hid (x = false → qs.all smallQ = false) := fun e => all_miss hq (hx.trans e)
        obtain ⟨l1, l2, ws⟩ := q
        have hx2 : (decide (l1.length ≤ 12) && (decide (l2.length ≤ 12) && decide (ws.length ≤ 6))) = x := hx
        have k0 : (0 : Int) ≤ (k : Int) := by omega
        have k1 : (k : Int) < (n : Int) := by omega
        have HBB : Hid (Bel w wr) := HB.up HBr
        have HBR2 : Hid (∀ o, Below W1.heap.size W1 (wr.alloc o)) := fun o => HBr.out.alloc HBr.out.size o
        clear hx hq HQ
        dsimp only at a0 a1 a2 f1 f2 f3
        obtain ⟨n1, hn1⟩ : ∃ n, l1.length = n := ⟨_, rfl⟩
        obtain ⟨n2, hn2⟩ : ∃ n, l2.length = n := ⟨_, rfl⟩
        obtain ⟨n3, hn3⟩ : ∃ n, ws.length = n := ⟨_, rfl⟩
        rw [hn1] at a0 hx2 f1
        rw [hn2] at a1 hx2 f2
        rw [hn3] at a2 hx2 f3
        clear hn1 hn2 hn3
        by_cases g1 : n1 ≤ 12
        · have e1 : decide ((12 : Int) < (n1 : Int)) = false := decide_eq_false (by omega)
          by_cases g2 : n2 ≤ 12
          · have e2 : decide ((12 : Int) < (n2 : Int)) = false := decide_eq_false (by omega)
            by_cases g3 : n3 ≤ 6
            · have e3 : decide ((6 : Int) < (n3 : Int)) = false := decide_eq_false (by omega)
              have HX2 : Hid (x = true) := by unfold Hid; rw [← hx2, decide_eq_true g1, decide_eq_true g2, decide_eq_true g3]; rfl
              clear hx2
              go_wp2_with fail
              go_roundw
              case rel => exact ⟨k + 1, by omega, by go_num, khide (HX.out.trans HX2.out), HBR2.out _⟩
              case measure => simp [intOf]; omega
            · have e3 : decide ((6 : Int) < (n3 : Int)) = true := decide_eq_true (by omega)
              have HX2 : Hid (smallU qs = false) := HV0.out.trans (HY.out (by rw [← hx2, decide_eq_false g3]; simp))
              clear hx2 HV0 HY HX
              go_wp2_with fail
              go_ret
              exact ⟨ret_bool HX2.out.symm, HBB.out.al _⟩
          · have e2 : decide ((12 : Int) < (n2 : Int)) = true := decide_eq_true (by omega)
            have HX2 : Hid (smallU qs = false) := HV0.out.trans (HY.out (by rw [← hx2, decide_eq_false g2]; simp))
            clear hx2 HV0 HY HX
            go_wp2_with fail
            go_ret
            exact ⟨ret_bool HX2.out.symm, HBB.out.al _⟩
        · have e1 : decide ((12 : Int) < (n1 : Int)) = true := decide_eq_true (by omega)
          have HX2 : Hid (smallU qs = false) := HV0.out.trans (HY.out (by rw [← hx2, decide_eq_false g1]; simp))
          clear hx2 HV0 HY HX
          go_wp2_with fail
          go_ret
          exact ⟨ret_bool HX2.out.symm, HBB.out.al _⟩
      · obtain rfl : k = n := by omega
        have h3 := HT.out
        rw [List.take_of_length_le (by rw [← HN.out]; exact Nat.le_refl _)] at h3
        have HX2 : Hid (smallU qs = true) := HV0.out.trans h3
        clear h3
        go_wp2
        go_ret
        exact ⟨ret_bool HX2.out.symm, HB.up HBr⟩
def goodsB (qs : List QL) : Bool := qs.all fun q => goodB q.2.2
theorem sameQs_iff : ∀ {qs : List QL} {r : List PL}, (∀ q ∈ qs, Good32 q.2.2) → (∀ p ∈ r, okP p) → (sameQs qs (r.map ofP) = true ↔ (r = qs.map toP ∧ goodsB qs = true))
  | [], [], _, _ => by simp [sameQs, goodsB]
  | [], p :: r, _, _ => by simp [sameQs]
  | q :: qs, [], _, _ => by simp [sameQs]
  | q :: qs, p :: r, hw, hp => by
    have ih := sameQs_iff (qs := qs) (r := r) (fun q' hq => hw q' (List.mem_cons_of_mem _ hq)) (fun p' hp' => hp p' (List.mem_cons_of_mem _ hp'))
    have h1 : sameQ q (ofP p) = true ↔ (p = toP q ∧ goodB q.2.2 = true) := by
      have hpk := hp p (by simp)
      unfold sameQ sameA
      simp only [Bool.and_eq_true, decide_eq_true_eq]
      obtain ⟨l1, l2, ws⟩ := q
      obtain ⟨p1, p2, t⟩ := p
      have e1 : val W32 (ofP (p1, p2, t)).2.2 = nuOf t := val_digs (by decide) _
      rw [e1]
      show goodB ws = true ∧ val W32 ws = nuOf t ∧ l1 = p1 ∧ l2 = p2 ↔ (p1, p2, t) = (l1, l2, nuT (val W32 ws)) ∧ goodB ws = true
      constructor
      · rintro ⟨h1, h2, h3, h4⟩
        rw [h2, h3, h4]
        have : nuT (nuOf t) = t := numW_back hpk
        rw [this]
        exact ⟨rfl, h1⟩
      · rintro ⟨h1, h2⟩
        injection h1 with h3 h4
        injection h4 with h4 h5
        refine ⟨h2, ?_, h3.symm, h4.symm⟩
        rw [h5]
        exact (numL_decL _).1.symm
    show (sameQ q (ofP p) && sameQs qs (r.map ofP)) = true ↔ p :: r = toP q :: qs.map toP ∧ (goodB q.2.2 && goodsB qs) = true
    rw [Bool.and_eq_true, Bool.and_eq_true, h1, ih, List.cons.injEq]
    constructor
    · rintro ⟨⟨a, b⟩, c, d⟩; exact ⟨⟨a, c⟩, b, d⟩
    · rintro ⟨⟨a, c⟩, b, d⟩; exact ⟨⟨a, b⟩, c, d⟩
theorem goodB_len {ws : List Nat} (h : goodB ws = true) (hw : Good32 ws) : ws = digs W32 (val W32 ws) := by
  refine (digs_val (by decide) ws hw fun x hx => ?_).symm
  unfold goodB at h
  rw [hx] at h
  simpa using h
theorem of_toP {q : QL} (h : goodB q.2.2 = true) (hw : Good32 q.2.2) (ho : okP (toP q)) : q = ofP (toP q) := by
  obtain ⟨l1, l2, ws⟩ := q
  have e : nuOf (nuT (val W32 ws)) = val W32 ws := (numL_decL _).1
  show (l1, l2, ws) = (l1, l2, digs W32 (nuOf (nuT (val W32 ws))))
  rw [e]
  have := goodB_len h hw
  rw [← this]
/-- As the document tells it: every number may be, and the text is read as the unit. -/
theorem good_doc {names ps : List ByteArray} {qs : List QL} (hw : ∀ q ∈ qs, Good32 q.2.2) : goodU names ps qs = ((match unitD names ps (unitS (qs.map toP)) with | .error _ => false | .ok c => sameP c (qs.map toP)) && goodsB qs) := by
  unfold goodU
  cases hD : unitD names ps (unitS (qs.map toP)) with
  | error v => simp
  | ok c =>
    obtain ⟨k1, k2, k3, k4⟩ := unitD_ok hD
    have hok := partsL_ok k3
    have hsm := sameQs_iff (qs := qs) (r := c) hw (fun p hp => (hok p hp).1)
    have hm : ∀ l ∈ cutBy andB (pcs (unitS (qs.map toP))), ∀ x ∈ l, x.size ≤ 20 := fun l hl x hx => goodAll_size k2 x (cutBy_mem _ l hl x hx)
    have hg := greats_of k3 hm
    show (decide (qs.length ≤ 4) && (!(qs.any greatQ) && sameQs qs (c.map ofP))) = (sameP c (qs.map toP) && goodsB qs)
    rw [Bool.eq_iff_iff]
    unfold sameP
    simp only [Bool.and_eq_true, decide_eq_true_eq, Bool.not_eq_true']
    constructor
    · rintro ⟨_, _, h3⟩
      exact hsm.1 h3
    · rintro ⟨h1, h2⟩
      have hmap : qs = c.map ofP := by
        rw [h1, List.map_map]
        conv => lhs; rw [← List.map_id qs]
        refine List.map_congr_left fun q hq => ?_
        have ho : okP (toP q) := (hok (toP q) (by rw [h1]; exact List.mem_map_of_mem hq)).1
        exact of_toP (List.all_eq_true.1 h2 q hq) (hw q hq) ho
      refine ⟨?_, ?_, hsm.2 ⟨h1, h2⟩⟩
      · rw [hmap, List.length_map]; exact k4
      · rw [hmap]; exact hg
end Go.Proofs.YthdpojkeceoiiaaGreatDoor
end

section
/- The law's small, of parts of which the lengths alone are known. Conditions: lists that fit. -/
open Go.RowKit
set_option maxRecDepth 100000
namespace Go.Proofs.YthdpojkeceoiiaaGreatDoor
def LQ (w : World) (B : Nat) (A : Option Addr) (ls : List (Nat × Nat × Nat)) : Prop :=
  0 < ls.length → ∃ ad : Addr, A = some ad ∧ ad.block < B ∧ ∀ j q, ls[j]? = some q → ∃ A1 c1 A2 c2 A3 c3, w.cell? (ad.add (j * 3)) = some (.slice A1 q.1 c1) ∧ w.cell? (ad.add (j * 3 + 1)) = some (.slice A2 q.2.1 c2) ∧ w.cell? (ad.add (j * 3 + 2)) = some (.slice A3 q.2.2 c3)
def LQs (W : World) (A : Option Addr) (ls : List (Nat × Nat × Nat)) : Prop := Hid (LQ W W.heap.size A ls)
section
variable {W W' : World} {A : Option Addr} {ls : List (Nat × Nat × Nat)}
theorem LQs.up (h : LQs W A ls) (hb : Hid (Below W.heap.size W W')) : LQs W' A ls := fun hn => by
  obtain ⟨ad, e, hbl, hc⟩ := h.out hn
  refine ⟨ad, e, Nat.lt_of_lt_of_le hbl hb.out.size, fun j q hj => ?_⟩
  obtain ⟨A1, c1, A2, c2, A3, c3, h1, h2, h3⟩ := hc j q hj
  exact ⟨A1, c1, A2, c2, A3, c3, (hb.out.cell (by rw [yblock_add]; exact hbl)).trans h1, (hb.out.cell (by rw [yblock_add]; exact hbl)).trans h2, (hb.out.cell (by rw [yblock_add]; exact hbl)).trans h3⟩
theorem LQs.at_ {k : Nat} {q : Nat × Nat × Nat} (h : LQs W A ls) (hk : ls[k]? = some q) : ∃ (ad : Addr) (A1 : Option Addr) (c1 : Nat) (A2 : Option Addr) (c2 : Nat) (A3 : Option Addr) (c3 : Nat), A = some ad ∧ ad.block < W.heap.size ∧
    W.cell? (ad.add (k * 3)) = some (.slice A1 q.1 c1) ∧ W.cell? ⟨(ad.add (k * 3)).block, (ad.add (k * 3)).off + 1, none⟩ = some (.slice A2 q.2.1 c2) ∧ W.cell? ⟨(ad.add (k * 3)).block, (ad.add (k * 3)).off + 2, none⟩ = some (.slice A3 q.2.2 c3) := by
  have hl : k < ls.length := (List.getElem?_eq_some_iff.1 hk).1
  obtain ⟨ad, e, hb, hc⟩ := h.out (by omega)
  obtain ⟨A1, c1, A2, c2, A3, c3, h1, h2, h3⟩ := hc k q hk
  refine ⟨ad, A1, c1, A2, c2, A3, c3, e, hb, h1, ?_, ?_⟩
  · rw [add_next ad (k * 3) 0]; exact h2
  · rw [add_next ad (k * 3) 1]; exact h3
end
def smallL1 (q : Nat × Nat × Nat) : Bool := decide (q.1 ≤ 12) && (decide (q.2.1 ≤ 12) && decide (q.2.2 ≤ 6))
def smallLs (ls : List (Nat × Nat × Nat)) : Bool := decide (ls.length ≤ 8) && ls.all smallL1
def lensQ (q : QL) : Nat × Nat × Nat := (q.1.length, q.2.1.length, q.2.2.length)
theorem smallLs_lens (qs : List QL) : smallLs (qs.map lensQ) = smallU qs := by
  unfold smallLs smallU
  rw [List.length_map, List.all_map]; rfl
set_option maxHeartbeats 8000000 in
theorem smallL_any {A : Option Addr} {n c : Nat} {ls : List (Nat × Nat × Nat)} {w : World} (h : LQs w A ls) (hn : n = ls.length) (hl : n ≤ 140737488355328) (hf : ∀ q ∈ ls, q.1 ≤ 140737488355328 ∧ q.2.1 ≤ 140737488355328 ∧ q.2.2 ≤ 140737488355328) : Calls Tryz.prog 15 #[.agg #[.slice A n c]] w (RetB w (smallLs ls)) := by
  obtain ⟨W1, hW1⟩ : ∃ X, X = w.alloc (.cells #[.slice A n c] 26) := ⟨_, rfl⟩
  have HU : At W1 w.heap.size [.slice A n c] := by rw [hW1]; exact at_new0 _ _ _
  have HB : Bel w W1 := by rw [hW1]; exact (Bel.refl w).al _
  have HN := khide hn
  have HF := khide hf
  have HW := khide hW1
  have hu_0 := HU.c0; have hu_l := HU.lt
  clear hW1 hf
  by_cases h8 : 8 < n
  · have d0 : decide ((8 : Int) < (n : Int)) = true := decide_eq_true (by omega)
    have HV : Hid (smallLs ls = false) := by unfold Hid smallLs; rw [decide_eq_false (show ¬ ls.length ≤ 8 by omega)]; rfl
    clear hn
    go_enter Tryz.func15, Tryz.ntmps15
    go_upto_region 1 with fail
    rw [← HW.out]
    go_wp2
    go_ret
    exact ⟨ret_bool HV.out.symm, HB⟩
  · have d0 : decide ((8 : Int) < (n : Int)) = false := decide_eq_false (by omega)
    have HV0 : Hid (smallLs ls = ls.all smallL1) := by unfold Hid smallLs; rw [decide_eq_true (show ls.length ≤ 8 by omega)]; rfl
    have hn8 : n ≤ 8 := by omega
    clear hn
    replace h := h.up HB.hid
    go_enter Tryz.func15, Tryz.ntmps15
    go_upto_region 1 with fail
    rw [← HW.out]
    go_wp2_with fail
    clear hu_0 hu_l
    go_loopw [3] (fun iv wr => ∃ k : Nat, k ≤ n ∧ iv = .int .i64 (k : Int) ∧ Hid ((ls.take k).all smallL1 = true) ∧ Hid (Below W1.heap.size W1 wr)) (fun iv _ => n - (intOf iv).toNat)
    case atStart => exact ⟨0, Nat.zero_le _, rfl, rfl, Below.refl _ _⟩
    case round =>
      obtain ⟨k, hk, rfl, HT, HBr⟩ := hrel
      have HUr := HU.up HBr
      have hu_0 := HUr.c0; have hu_l := HUr.lt
      by_cases hlt : k < n
      · obtain ⟨q, hq⟩ : ∃ q, ls[k]? = some q := ⟨ls[k]'(by rw [← HN.out]; exact hlt), List.getElem?_eq_getElem _⟩
        obtain ⟨ad, A1, c1, A2, c2, A3, c3, rfl, had, a0, a1, a2⟩ := (h.up HBr).at_ hq
        obtain ⟨f1, f2, f3⟩ := HF.out q (List.mem_of_getElem? hq)
        obtain ⟨x, hx⟩ : ∃ x, smallL1 q = x := ⟨_, rfl⟩
        have HX : Hid ((ls.take (k + 1)).all smallL1 = x) := by unfold Hid; rw [all_takeQ hq, HT.out, hx]; rfl
        have HY : Hid (x = false → ls.all smallL1 = false) := fun e => all_miss hq (hx.trans e)
        obtain ⟨n1, n2, n3⟩ := q
        have hx2 : (decide (n1 ≤ 12) && (decide (n2 ≤ 12) && decide (n3 ≤ 6))) = x := hx
        have k0 : (0 : Int) ≤ (k : Int) := by omega
        have k1 : (k : Int) < (n : Int) := by omega
        have HBB : Hid (Bel w wr) := HB.up HBr
        have HBR2 : Hid (∀ o, Below W1.heap.size W1 (wr.alloc o)) := fun o => HBr.out.alloc HBr.out.size o
        clear hx hq
        dsimp only at a0 a1 a2 f1 f2 f3
        by_cases g1 : n1 ≤ 12
        · have e1 : decide ((12 : Int) < (n1 : Int)) = false := decide_eq_false (by omega)
          by_cases g2 : n2 ≤ 12
          · have e2 : decide ((12 : Int) < (n2 : Int)) = false := decide_eq_false (by omega)
            by_cases g3 : n3 ≤ 6
            · have e3 : decide ((6 : Int) < (n3 : Int)) = false := decide_eq_false (by omega)
              have HX2 : Hid (x = true) := by unfold Hid; rw [← hx2, decide_eq_true g1, decide_eq_true g2, decide_eq_true g3]; rfl
              clear hx2
              go_wp2_with fail
              go_roundw
              case rel => exact ⟨k + 1, by omega, by go_num, khide (HX.out.trans HX2.out), HBR2.out _⟩
              case measure => simp [intOf]; omega
            · have e3 : decide ((6 : Int) < (n3 : Int)) = true := decide_eq_true (by omega)
              have HX2 : Hid (smallLs ls = false) := HV0.out.trans (HY.out (by rw [← hx2, decide_eq_false g3]; simp))
              clear hx2 HV0 HY HX
              go_wp2_with fail
              go_ret
              exact ⟨ret_bool HX2.out.symm, HBB.out.al _⟩
          · have e2 : decide ((12 : Int) < (n2 : Int)) = true := decide_eq_true (by omega)
            have HX2 : Hid (smallLs ls = false) := HV0.out.trans (HY.out (by rw [← hx2, decide_eq_false g2]; simp))
            clear hx2 HV0 HY HX
            go_wp2_with fail
            go_ret
            exact ⟨ret_bool HX2.out.symm, HBB.out.al _⟩
        · have e1 : decide ((12 : Int) < (n1 : Int)) = true := decide_eq_true (by omega)
          have HX2 : Hid (smallLs ls = false) := HV0.out.trans (HY.out (by rw [← hx2, decide_eq_false g1]; simp))
          clear hx2 HV0 HY HX
          go_wp2_with fail
          go_ret
          exact ⟨ret_bool HX2.out.symm, HBB.out.al _⟩
      · obtain rfl : k = n := by omega
        have h3 := HT.out
        rw [List.take_of_length_le (by rw [← HN.out]; exact Nat.le_refl _)] at h3
        have HX2 : Hid (smallLs ls = true) := HV0.out.trans h3
        clear h3
        go_wp2
        go_ret
        exact ⟨ret_bool HX2.out.symm, HB.up HBr⟩
end Go.Proofs.YthdpojkeceoiiaaGreatDoor
end

section
/- The opening of a unit that came in: parts of atoms above, atoms below and a number's words. No conditions. -/
open Go.ChangeShapes Go.WideShapes Go.ChangeAt Go.RowKit
set_option maxRecDepth 100000
namespace Go.Proofs.YthdpojkeceoiiaaGreatDoor
theorem Tryz.cellsSa : Tryz.prog.cellsOf 36 = 1 := by kernel_rfl
theorem Tryz.cellsPart : Tryz.prog.cellsOf 41 = 3 := by kernel_rfl
theorem Tryz.cellsUnit : Tryz.prog.cellsOf 26 = 1 := by kernel_rfl
theorem Tryz.cellsNatN : Tryz.prog.cellsOf 39 = 1 := by kernel_rfl
theorem Tryz.cellsWs : Tryz.prog.cellsOf 37 = 1 := by kernel_rfl
theorem bulk_in' {H : Type} {l : List (DataW H)} {d : DataW H} (h : d ∈ l) : Rows.uptoBulk d ≤ Rows.uptoBulkAll l := by
  induction l with
  | nil => cases h
  | cons x r ih =>
    simp only [Rows.uptoBulkAll]
    rcases List.mem_cons.1 h with e | e
    · subst e; omega
    · have := ih e; omega
theorem bulk_pos {H : Type} (d : DataW H) : 0 < Rows.uptoBulk d := by
  cases d with
  | lit x => cases x <;> simp only [Rows.uptoBulk] <;> omega
  | _ => simp only [Rows.uptoBulk]; omega
theorem bulk_len {H : Type} (l : List (DataW H)) : l.length ≤ Rows.uptoBulkAll l := by
  induction l with
  | nil => simp
  | cons x r ih =>
    have := bulk_pos x
    simp only [Rows.uptoBulkAll, List.length_cons]
    omega
/-- The datum of an atom. -/
def datA {H : Type} (a : AL) : DataW H := .agg [.lit (.string a.1.data.toList), .lit (.string a.2.1.data.toList), .lit (.int .i64 a.2.2)]
theorem open_atom3 {H : Type} {enc : TypeId × Value → H} {W : World} {n : Nat} {cs : List Value} {y : DataW H × List MemPlace} (h : DataW.trod enc Tryz.prog W 0 (fun _ => true) true n 59 cs = some y) :
    ∃ a : AL, cs = cellA a ∧ y.1 = datA a := by
  obtain ⟨y0, y1, y2, m, hx, hl, h0, h1, h2⟩ := Go.Deep.trod_struct3 Tryz.underlying59 h
  rw [Tryz.cellsAtom] at hl
  match cs, hl with
  | [v0, v1, v2], _ =>
    have h0' : DataW.trod enc Tryz.prog W 0 (fun _ => true) true m 9 [v0] = some y0 := by
      have e := h0
      simp only [Tryz.cellsStr] at e
      simpa using e
    have h1' : DataW.trod enc Tryz.prog W 0 (fun _ => true) true m 9 [v1] = some y1 := by
      have e := h1
      simp only [Tryz.cellsStr] at e
      simpa using e
    have h2' : DataW.trod enc Tryz.prog W 0 (fun _ => true) true m 3 [v2] = some y2 := by
      have e := h2
      simp only [Tryz.cellsInt1] at e
      simpa using e
    obtain ⟨x, e0, g0, _⟩ := DataW.trod_string Tryz.underlying9 h0'
    obtain ⟨z, e1, g1, _⟩ := DataW.trod_string Tryz.underlying9 h1'
    obtain ⟨k, e2, g2, _⟩ := DataW.trod_int Tryz.underlying3 h2'
    injection e0 with e0
    injection e1 with e1
    injection e2 with e2
    subst e0 e1 e2 g0 g1 g2
    refine ⟨(x, z, k), rfl, ?_⟩
    have := congrArg Prod.fst hx
    simpa [datA] using this
theorem cells_at {w : World} {base : Nat} {a : Addr} {n : Nat} {cs : List Value} (h : w.cells? base a n = some cs) {j : Nat} {v : Value} (hj : cs[j]? = some v) : w.cell? (a.add j) = some v := by
  obtain ⟨_, hl, hc⟩ := World.cells?_some h
  have hjl : j < cs.length := (List.getElem?_eq_some_iff.1 hj).1
  rw [hc j (by omega), hj]
theorem mapRange_get {α : Type} {n i : Nat} {f : Nat → α} (h : i < n) : ((List.range n).map f)[i]? = some (f i) := by
  rw [List.getElem?_map, List.getElem?_range h]; rfl
theorem cellsA_at : ∀ {l : List AL} {j : Nat} {v : Value}, (cellsA l)[j]? = some v → ∃ a, l[j / 3]? = some a ∧ (cellA a)[j % 3]? = some v
  | [], j, v, h => by simp [cellsA] at h
  | b :: l, j, v, h => by
    have h1 : (cellA b ++ cellsA l)[j]? = some v := h
    rcases Nat.lt_or_ge j 3 with hj | hj
    · rw [List.getElem?_append_left (by simp [cellA]; omega)] at h1
      exact ⟨b, by rw [Nat.div_eq_of_lt hj]; rfl, by rw [Nat.mod_eq_of_lt hj]; exact h1⟩
    · rw [List.getElem?_append_right (by simp [cellA]; omega)] at h1
      obtain ⟨a, h2, h3⟩ := cellsA_at (l := l) (j := j - 3) h1
      refine ⟨a, ?_, ?_⟩
      · rw [show j / 3 = (j - 3) / 3 + 1 by omega]; exact h2
      · rw [show j % 3 = (j - 3) % 3 by omega]; exact h3
theorem open_atoms {H : Type} {enc : TypeId × Value → H} {W : World} {n : Nat} {v : Value} {y : DataW H × List MemPlace} (h : DataW.trod enc Tryz.prog W 0 (fun _ => true) true n 36 [v] = some y) :
    ∃ (A : Option Addr) (c : Nat) (xs : List AL), v = .slice A xs.length c ∧ xs.length ≤ c ∧ Cs W A (cellsA xs) ∧ (xs = [] ∨ ∃ spare, y.1 = .slice (xs.map datA) spare) := by
  rcases Go.Deep.open_slice Tryz.underlying36 h with ⟨hcs, _⟩ | ⟨a, len, cap, m, n', D, Pl, hcs, _, hl, _, hm, rfl, hx⟩
  · injection hcs with hcs
    exact ⟨none, 0, [], hcs, Nat.le_refl _, Cs.nil, .inl rfl⟩
  · injection hcs with hcs
    have hlm : len ≤ m := by rw [hm]; split <;> omega
    have hy : ∀ i, i < len → ∃ at_ : AL, W.cells? 0 (a.add (i * 3)) 3 = some (cellA at_) ∧ D i = datA at_ := fun i hi => by
      obtain ⟨cs', h1, h2⟩ := hx i (by omega)
      rw [Tryz.cellsAtom] at h1
      obtain ⟨at_, e1, e2⟩ := open_atom3 h2
      exact ⟨at_, by rw [h1, e1], e2⟩
    obtain ⟨X, hX⟩ := Go.Deep.choose_lt (α := AL) hy
    refine ⟨some a, cap, (List.range len).map X, by rw [hcs, List.length_map, List.length_range], by rw [List.length_map, List.length_range]; exact hl, fun hn => ⟨a, rfl, ?_, fun j v hj => ?_⟩, .inr ⟨(List.range (m - len)).map fun j => D (len + j), ?_⟩⟩
    · have hlen : 0 < len := by
        rcases Nat.eq_zero_or_pos len with h0 | h0
        · rw [h0] at hn; simp [cellsA] at hn
        · exact h0
      have h0 := (hX 0 hlen).1
      have h1 := cells_at h0 (j := 0) (v := .string (X 0).1) rfl
      have := World.block_lt_of_cell? W _ h1
      rw [yblock_add, yblock_add] at this
      exact this
    · obtain ⟨b, hb, hv⟩ := cellsA_at hj
      have hlt : j / 3 < len := by
        rcases Nat.lt_or_ge (j / 3) len with h1 | h1
        · exact h1
        · rw [List.getElem?_eq_none (by simpa using h1)] at hb; cases hb
      rw [mapRange_get hlt] at hb
      injection hb with hb
      subst hb
      have := cells_at (hX _ hlt).1 hv
      rwa [Go.Deep.add_add, show j / 3 * 3 + j % 3 = j by omega] at this
    · rw [List.map_map]
      show DataW.slice _ _ = _
      rw [List.map_congr_left (g := datA ∘ X) fun i hi => (hX i (List.mem_range.1 hi)).2]
theorem atoms_bulk {H : Type} {xs : List AL} {d : DataW H} (h : xs = [] ∨ ∃ spare, d = .slice (xs.map datA) spare) : (∀ a ∈ xs, a.1.size + a.2.1.size ≤ Rows.uptoBulk d) ∧ xs.length ≤ Rows.uptoBulk d := by
  rcases h with rfl | ⟨spare, rfl⟩
  · exact ⟨fun a ha => by simp at ha, Nat.zero_le _⟩
  · have hl := bulk_len (xs.map (datA (H := H)))
    rw [List.length_map] at hl
    refine ⟨fun a ha => ?_, by simp only [Rows.uptoBulk]; omega⟩
    have h1 := bulk_in' (List.mem_map.2 ⟨a, ha, rfl⟩ : datA (H := H) a ∈ xs.map datA)
    simp only [datA, Rows.uptoBulk, Rows.uptoBulkAll] at h1
    simp only [Rows.uptoBulk]
    rw [Lib.size_eq, Lib.size_eq]
    have e : List.map datA xs = xs.map (datA (H := H)) := rfl
    simp only [datA] at h1 e ⊢
    omega
theorem open_nat32 {H : Type} {enc : TypeId × Value → H} {W : World} {n : Nat} {v : Value} {y : DataW H × List MemPlace} (h : DataW.trod enc Tryz.prog W 0 (fun _ => true) true n 39 [v] = some y) :
    ∃ (A : Option Addr) (c : Nat) (ws : List Nat), v = .slice A ws.length c ∧ ws.length ≤ c ∧ Rd U32 W W.heap.size A ws ∧ Good32 ws ∧ ws.length ≤ Rows.uptoBulk y.1 := by
  obtain ⟨y2, n2, hx, _, h2⟩ := trod_struct1 Tryz.underlying39 h
  have h2' : DataW.trod enc Tryz.prog W 0 (fun _ => true) true n2 37 [v] = some y2 := by
    have e := h2
    simp only [Tryz.cellsWs] at e
    simpa using e
  have hy : Rows.uptoBulk y2.1 ≤ Rows.uptoBulk y.1 := by
    rw [hx]
    simp only [Rows.uptoBulk, Rows.uptoBulkAll]; omega
  rcases open_ints Tryz.underlying37 Tryz.underlying73 (by kernel_rfl) h2' with ⟨hcs, _⟩ | ⟨x, len, cap, zs, hcs, _, hl, hm, hz, hd, hcell, hwz⟩
  · injection hcs with hcs
    exact ⟨none, 0, [], hcs, Nat.le_refl _, Rd.nil, (fun x hx => by simp at hx), Nat.zero_le _⟩
  · injection hcs with hcs
    have hz' : zs.length = cap := by simpa using hz
    have hw : ∀ n ∈ zs, 0 ≤ n ∧ n ≤ 4294967295 := fun n hn => bounds_u32 (hwz n hn)
    have hlen : ((zs.take len).map Int.toNat).length = len := by rw [List.length_map, List.length_take]; omega
    refine ⟨some x, cap, (zs.take len).map Int.toNat, by rw [hcs, hlen], by omega, fun h0 => ?_, ?_, ?_⟩
    · rw [List.length_map, List.length_take] at h0
      have hc0 := hcell 0 (by omega)
      refine ⟨x, rfl, ?_, fun j y hy => ?_⟩
      · have := World.block_lt_of_cell? W _ hc0
        rwa [yblock_add] at this
      · rw [List.getElem?_map, List.getElem?_take] at hy
        split at hy
        · rename_i hj
          have hjz : j < zs.length := by omega
          rw [hcell j hjz]
          rw [List.getElem?_eq_getElem hjz] at hy
          injection hy with hy
          rw [List.getD_eq_getElem?_getD, List.getElem?_eq_getElem hjz, ← hy]
          have := hw _ (List.getElem_mem hjz)
          show some (Value.int .u32 (zs[j])) = some (Value.int .u32 ((zs[j].toNat : Nat) : Int))
          rw [Int.toNat_of_nonneg this.1]
        · cases hy
    · intro y hy
      obtain ⟨n, hn, rfl⟩ := List.mem_map.1 hy
      have := hw n (List.mem_of_mem_take hn)
      rw [W32_eq]; omega
    · rw [hlen]
      refine Nat.le_trans ?_ hy
      rw [hd]
      have := bulk_len (H := H) (lits .u32 (zs.take len))
      have e : (lits (H := H) .u32 (zs.take len)).length = len := by unfold lits; rw [List.length_map, List.length_take]; omega
      simp only [Rows.uptoBulk]
      omega
/-- Bounds of a part. -/
def BulkQ (q : QL) (b : Nat) : Prop := (∀ a ∈ q.1, a.1.size + a.2.1.size ≤ b) ∧ (∀ a ∈ q.2.1, a.1.size + a.2.1.size ≤ b) ∧ q.1.length ≤ b ∧ q.2.1.length ≤ b ∧ q.2.2.length ≤ b
theorem BulkQ.mono {q : QL} {b b' : Nat} (h : BulkQ q b) (hb : b ≤ b') : BulkQ q b' := by
  obtain ⟨h1, h2, h3, h4, h5⟩ := h
  exact ⟨fun a ha => by have := h1 a ha; omega, fun a ha => by have := h2 a ha; omega, by omega, by omega, by omega⟩
/-- What the walk is told of a part that came in. -/
def InPart (W : World) (cs : List Value) (q : QL) : Prop := ∃ A1 c1 A2 c2 A3 c3, cs = [.slice A1 q.1.length c1, .slice A2 q.2.1.length c2, .slice A3 q.2.2.length c3] ∧ q.1.length ≤ c1 ∧ q.2.1.length ≤ c2 ∧ q.2.2.length ≤ c3 ∧ Cs W A1 (cellsA q.1) ∧ Cs W A2 (cellsA q.2.1) ∧ Rd U32 W W.heap.size A3 q.2.2 ∧ Good32 q.2.2
theorem open_part {H : Type} {enc : TypeId × Value → H} {W : World} {n : Nat} {cs : List Value} {y : DataW H × List MemPlace} (h : DataW.trod enc Tryz.prog W 0 (fun _ => true) true n 41 cs = some y) :
    ∃ q : QL, InPart W cs q ∧ BulkQ q (Rows.uptoBulk y.1) := by
  obtain ⟨y0, y1, y2, m, hx, hl, h0, h1, h2⟩ := Go.Deep.trod_struct3 Tryz.underlying41 h
  rw [Tryz.cellsPart] at hl
  match cs, hl with
  | [v0, v1, v2], _ =>
    have h0' : DataW.trod enc Tryz.prog W 0 (fun _ => true) true m 36 [v0] = some y0 := by
      have e := h0
      simp only [Tryz.cellsSa] at e
      simpa using e
    have h1' : DataW.trod enc Tryz.prog W 0 (fun _ => true) true m 36 [v1] = some y1 := by
      have e := h1
      simp only [Tryz.cellsSa] at e
      simpa using e
    have h2' : DataW.trod enc Tryz.prog W 0 (fun _ => true) true m 39 [v2] = some y2 := by
      have e := h2
      simp only [Tryz.cellsNatN] at e
      simpa using e
    obtain ⟨A1, c1, l1, rfl, b1, k1, g1⟩ := open_atoms h0'
    obtain ⟨A2, c2, l2, rfl, b2, k2, g2⟩ := open_atoms h1'
    obtain ⟨A3, c3, ws, rfl, b3, k3, k4, g3⟩ := open_nat32 h2'
    obtain ⟨f1, f2⟩ := atoms_bulk g1
    obtain ⟨f3, f4⟩ := atoms_bulk g2
    have e : Rows.uptoBulk y0.1 ≤ Rows.uptoBulk y.1 ∧ Rows.uptoBulk y1.1 ≤ Rows.uptoBulk y.1 ∧ Rows.uptoBulk y2.1 ≤ Rows.uptoBulk y.1 := by
      rw [hx]
      simp only [Rows.uptoBulk, Rows.uptoBulkAll]; omega
    exact ⟨(l1, l2, ws), ⟨A1, c1, A2, c2, A3, c3, rfl, b1, b2, b3, k1, k2, k3, k4⟩, fun a ha => Nat.le_trans (f1 a ha) e.1, fun a ha => Nat.le_trans (f3 a ha) e.2.1, Nat.le_trans f2 e.1, Nat.le_trans f4 e.2.1, Nat.le_trans g3 e.2.2⟩
/-- What the walk is told of a unit that came in. -/
structure InUnit (W : World) (A : Option Addr) (qs : List QL) : Prop where
  lens : LQs W A (qs.map lensQ)
  full : (∀ q ∈ qs, q.2.2.length ≤ 100000) → Qs W A qs
  good : ∀ q ∈ qs, Good32 q.2.2
theorem open_unit {H : Type} {enc : TypeId × Value → H} {W : World} {r : Reach} {b0 : Nat} {v : Value} {d : DataW H} {p : List MemPlace}
    (hv : Value.okWide Tryz.prog W r b0 26 v) (h : DataW.Trod enc Tryz.prog W 0 (fun _ => true) true 26 v d p) :
    ∃ A c qs, v = .agg #[.slice A qs.length c] ∧ qs.length ≤ c ∧ InUnit W A qs ∧ (∀ q ∈ qs, BulkQ q (Rows.uptoBulk d)) ∧ qs.length ≤ Rows.uptoBulk d := by
  obtain ⟨cs, rfl, hs⟩ := okWide_struct Tryz.underlying26 hv
  obtain ⟨fuel, hf⟩ := h
  obtain ⟨y0, n, hx, _, h0⟩ := trod_struct1 Tryz.underlying26 hf
  rw [Tryz.cellsUnit] at hs
  obtain ⟨l⟩ := cs
  match l, hs with
  | [v0], _ =>
    have h0' : DataW.trod enc Tryz.prog W 0 (fun _ => true) true n 24 [v0] = some y0 := by
      have e := h0
      simp only [show Tryz.prog.cellsOf 24 = 1 by kernel_rfl] at e
      simpa [Value.cells] using e
    have hd : d = .agg [y0.1] := congrArg Prod.fst hx
    rcases Go.Deep.open_slice Tryz.underlying24 h0' with ⟨hcs, _⟩ | ⟨a, len, cap, m, n', D, Pl, hcs, _, hl, _, hm, rfl, hx'⟩
    · injection hcs with hcs
      exact ⟨none, 0, [], by rw [hcs]; rfl, Nat.le_refl _, ⟨fun hn => absurd hn (by simp), fun _ => Qs.nil, fun q hq => (by cases hq)⟩, fun q hq => (by cases hq), Nat.zero_le _⟩
    · injection hcs with hcs
      have hlm : len ≤ m := by rw [hm]; split <;> omega
      have hy : ∀ i, i < len → ∃ q : QL, (∃ cs', W.cells? 0 (a.add (i * 3)) 3 = some cs' ∧ InPart W cs' q) ∧ BulkQ q (Rows.uptoBulk (D i)) := fun i hi => by
        obtain ⟨cs', h1, h2⟩ := hx' i (by omega)
        rw [Tryz.cellsPart] at h1
        obtain ⟨q, e1, e2⟩ := open_part h2
        exact ⟨q, ⟨cs', h1, e1⟩, e2⟩
      obtain ⟨X, hX⟩ := Go.Deep.choose_lt (α := QL) hy
      have hlq : ((List.range len).map X).length = len := by rw [List.length_map, List.length_range]
      have hbk : 0 < len → a.block < W.heap.size := fun h9 => by
        obtain ⟨cs', h1, A1, c1, A2, c2, A3, c3, rfl, _⟩ := (hX 0 h9).1
        have := World.block_lt_of_cell? W _ (cells_at h1 (j := 0) rfl)
        rwa [yblock_add, yblock_add] at this
      have hget : ∀ {j : Nat} {q : QL}, ((List.range len).map X)[j]? = some q → j < len ∧ X j = q := fun {j q} hj => by
        have hlt : j < len := by
          rcases Nat.lt_or_ge j len with h1 | h1
          · exact h1
          · rw [List.getElem?_eq_none (by omega)] at hj; cases hj
        rw [mapRange_get hlt] at hj
        injection hj with hj
        exact ⟨hlt, hj⟩
      have hall : Rows.uptoBulkAll ((List.range len).map D) ≤ Rows.uptoBulk d := by
        rw [hd]
        simp only [Rows.uptoBulk, Rows.uptoBulkAll]; omega
      refine ⟨some a, cap, (List.range len).map X, by rw [hcs, hlq], by omega, ⟨fun hn => ?_, fun hsm hn => ?_, fun q hq => ?_⟩, fun q hq => ?_, ?_⟩
      · rw [List.length_map, hlq] at hn
        refine ⟨a, rfl, hbk hn, fun j q hj => ?_⟩
        rw [List.getElem?_map] at hj
        obtain ⟨q', hj', rfl⟩ := Option.map_eq_some_iff.1 hj
        obtain ⟨hlt, rfl⟩ := hget hj'
        obtain ⟨cs', h1, A1, c1, A2, c2, A3, c3, rfl, _⟩ := (hX j hlt).1
        refine ⟨A1, c1, A2, c2, A3, c3, ?_, ?_, ?_⟩
        · have := cells_at h1 (j := 0) rfl
          rwa [Go.Deep.add_add] at this
        · have := cells_at h1 (j := 1) rfl
          rwa [Go.Deep.add_add] at this
        · have := cells_at h1 (j := 2) rfl
          rwa [Go.Deep.add_add] at this
      · rw [hlq] at hn
        refine ⟨a, rfl, hbk hn, fun j q hj => ?_⟩
        have hmem := List.mem_of_getElem? hj
        obtain ⟨hlt, rfl⟩ := hget hj
        obtain ⟨cs', h1, A1, c1, A2, c2, A3, c3, rfl, b1, b2, b3, k1, k2, k3, k4⟩ := (hX j hlt).1
        refine ⟨_, _, _, ?_, ?_, ?_, A1, c1, A2, c2, A3, c3, rfl, rfl, rfl, b1, b2, b3, hsm _ hmem, k1.out, k2.out, k3, k4⟩
        · have := cells_at h1 (j := 0) rfl
          rwa [Go.Deep.add_add] at this
        · have := cells_at h1 (j := 1) rfl
          rwa [Go.Deep.add_add] at this
        · have := cells_at h1 (j := 2) rfl
          rwa [Go.Deep.add_add] at this
      · obtain ⟨i, hi, rfl⟩ := List.mem_map.1 hq
        obtain ⟨cs', h1, A1, c1, A2, c2, A3, c3, rfl, b1, b2, b3, k1, k2, k3, k4⟩ := (hX i (List.mem_range.1 hi)).1
        exact k4
      · obtain ⟨i, hi, rfl⟩ := List.mem_map.1 hq
        exact (hX i (List.mem_range.1 hi)).2.mono (Nat.le_trans (bulk_in' (List.mem_map.2 ⟨i, hi, rfl⟩)) hall)
      · have := bulk_len ((List.range len).map D)
        rw [List.length_map, List.length_range] at this
        omega
end Go.Proofs.YthdpojkeceoiiaaGreatDoor
end

section
/- Atoms in order: one sorted list for all lists that hold the same atoms. No conditions. -/
set_option maxRecDepth 100000
namespace Go.Proofs.YthdpojkeceoiiaaGreatDoor
def ltQ (a b : AL) : Bool := lessB a.1 a.2.1 a.2.2 b.1 b.2.1 b.2.2
theorem ltQ_tot {a b : AL} (h : ltQ a b = false) (h' : ltQ b a = false) : a = b := by
  obtain ⟨p, n, k⟩ := a
  obtain ⟨p', n', k'⟩ := b
  rcases Bool.eq_false_or_eq_true (eqA p n k p' n' k') with e | e
  · obtain ⟨rfl, rfl, rfl⟩ := of_decide_eq_true e; rfl
  · have := lessB_tri e
    have h1 : lessB p n k p' n' k' = false := h
    have h2 : lessB p' n' k' p n k = false := h'
    rw [h1, h2] at this; cases this
theorem swo_ltQ : Sort.SWO ltQ where
  irrefl x := lessB_irr
  trans x y z h h' := lessB_tr h h'
  ntrans x y z h h' := by
    rw [Bool.eq_false_iff]
    intro h9
    rcases Bool.eq_false_or_eq_true (ltQ y x) with e | e
    · have := lessB_tr (show lessB y.1 y.2.1 y.2.2 x.1 x.2.1 x.2.2 = true from e) h9
      have h2 : ltQ y z = true := this
      rw [h'] at h2; cases h2
    · obtain rfl := ltQ_tot h e
      rw [h'] at h9; cases h9
/-- The atoms in order. -/
def sortQ (l : List AL) : List AL := (Sort.insertionSort ltQ l.toArray 0 l.length).toList
theorem sortQ_facts (l : List AL) : (sortQ l).Perm l ∧ Sort.SortedIn ltQ 0 l.length (Sort.insertionSort ltQ l.toArray 0 l.length) ∧ (Sort.insertionSort ltQ l.toArray 0 l.length).size = l.length := by
  obtain ⟨⟨h1, h2, h3⟩, h4⟩ := Sort.insertionSort_holds swo_ltQ l.toArray 0 l.length (Nat.zero_le _) (by simp)
  refine ⟨?_, h4, by simpa using h1⟩
  have hs : (Sort.insertionSort ltQ l.toArray 0 l.length).size = l.length := by simpa using h1
  have e1 : (Sort.insertionSort ltQ l.toArray 0 l.length).extract 0 l.length = Sort.insertionSort ltQ l.toArray 0 l.length := by
    have := Array.extract_size (xs := Sort.insertionSort ltQ l.toArray 0 l.length)
    rwa [hs] at this
  have e2 : l.toArray.extract 0 l.length = l.toArray := by
    simp
  rw [e1, e2] at h3
  exact h3
theorem sortQ_len (l : List AL) : (sortQ l).length = l.length := (sortQ_facts l).1.length_eq
theorem sortQ_unique {l m : List AL} (h : l.Perm m) : sortQ l = sortQ m := by
  have key : ∀ {m : List AL}, l.Perm m → (Sort.insertionSort ltQ m.toArray 0 m.length).toList = l.toArray.toList.mergeSort (fun x y => !ltQ y x) := fun {m} h => by
    obtain ⟨h1, h2, h3⟩ := sortQ_facts m
    have hl := h.length_eq
    refine Sort.sorted_unique_holds swo_ltQ (fun x y => ltQ_tot) l.toArray _ ⟨by rw [h3]; simp [hl], fun i hi => ?_, ?_⟩ (by rw [show l.toArray.size = m.length by simp [hl]]; exact h2)
    · rcases hi with hi | hi
      · omega
      · have hi' : l.length ≤ i := by simpa using hi
        rw [getElem!_neg _ _ (by rw [h3]; omega), getElem!_neg _ _ (by simpa using hi')]
    · have e1 : (Sort.insertionSort ltQ m.toArray 0 m.length).extract 0 l.toArray.size = Sort.insertionSort ltQ m.toArray 0 m.length := by
        rw [show l.toArray.size = (Sort.insertionSort ltQ m.toArray 0 m.length).size by rw [h3]; simp [hl]]
        exact Array.extract_size
      rw [e1, Array.extract_size]
      exact h1.trans h.symm
  exact (key (List.Perm.refl l)).trans (key h).symm
end Go.Proofs.YthdpojkeceoiiaaGreatDoor
end

section
/- The library's sort of few atoms, whose 'less' may lay blocks. Conditions: at most 12 atoms. -/
open Go.RowKit
set_option maxRecDepth 100000
namespace Go.Proofs.YthdpojkeceoiiaaGreatDoor
/-- What 'less' and 'swap' do to what reads as the row dk. -/
structure Sorts (g : Nat) (lb : Array Value) (sf : Nat) (sb : Array Value) (n blk : Nat) (R : Array AL → World → Prop) : Prop where
  less : ∀ (dk : Array AL) (W : World), R dk W → dk.size = n → ∀ i j : Nat, i < n → j < n → Calls Tryz.prog g (#[.int .i64 i, .int .i64 j] ++ lb) W fun e w' => e = .returned (.bool (ltQ dk[i]! dk[j]!)) ∧ Bel W w' ∧ R dk w'
  swap : 2 ≤ n → ∀ (dk : Array AL) (W : World), R dk W → dk.size = n → ∀ i j : Nat, i < n → j < n → ∃ W', (callFunc sf (#[.int .i64 i, .int .i64 j] ++ sb)).run Tryz.prog W = .ok (.value (.tuple #[])) W' ∧ R (Sort.swp dk i j) W' ∧ ∀ p vs, p ≠ blk → At W p vs → At W' p vs
  alloc : ∀ (dk : Array AL) (W : World) (o : Obj), R dk W → R dk (W.alloc o)
  drew : ∀ (dk : Array AL) (W : World), R dk W → R dk W.drew
set_option maxHeartbeats 8000000 in
theorem insSort_any {g sf n blk a b : Nat} {lb sb : Array Value} {R : Array AL → World → Prop} (S : Sorts g lb sf sb n blk R) (eg : ∀ args w, (callFunc g args).run Tryz.prog w = .ok (.enter g args) w) {d : Array AL} {w : World} (h : R d w) (hs : d.size = n) (hab : a ≤ b) (hb : b ≤ n) (hn : n ≤ 12) (hblk : blk < w.heap.size) :
    Calls Tryz.prog 120 #[.agg #[.func (.func g) #[] lb, .func (.func sf) #[] sb], .int .i64 a, .int .i64 b] w fun e w' => e = .returned (.tuple #[]) ∧ R (Sort.insertionSort ltQ d a b) w' := by
  obtain ⟨W1, hW1⟩ : ∃ X, X = w.alloc (.cells #[.func (.func g) #[] lb, .func (.func sf) #[] sb] 146) := ⟨_, rfl⟩
  have HD : At W1 w.heap.size [.func (.func g) #[] lb, .func (.func sf) #[] sb] := by rw [hW1]; exact at_new0 _ _ _
  have HR : Hid (R d W1) := hW1 ▸ S.alloc _ _ _ h
  have HW := khide hW1
  have HS := khide S
  obtain ⟨db, hdb⟩ : ∃ db, db = w.heap.size := ⟨_, rfl⟩
  have hne : db ≠ blk := by omega
  rw [← hdb] at HD
  clear hW1 h S
  go_enter Tryz.func120, Tryz.ntmps120
  go_upto_region 1 with fail
  rw [← HW.out, ← hdb]
  clear hdb
  go_wp2_with fail
  go_loopw [6] (fun vi wr => ∃ (i : Nat) (dk : Array AL), vi = .int .i64 i ∧ a < i ∧ i ≤ b + 1 ∧ dk.size = n ∧ Hid (R dk wr) ∧ Hid (At wr db [.func (.func g) #[] lb, .func (.func sf) #[] sb]) ∧ Hid (Sort.insOuter ltQ a b i dk = Sort.insOuter ltQ a b (a + 1) d)) (fun vi _ => b + 1 - (intOf vi).toNat)
  case atStart => exact ⟨a + 1, d, by go_num, by omega, by omega, hs, HR, HD, rfl⟩
  case round =>
    clear HR HD
    obtain ⟨i, dk, rfl, hai, hib, hsk, HR, HD, HO⟩ := hrel
    by_cases hlt : i < b
    · have k0 : (i : Int) < (b : Int) := by omega
      go_wp2_with fail
      go_loopw [7] (fun vj wr2 => ∃ (j : Nat) (dj : Array AL), vj = .int .i64 j ∧ a ≤ j ∧ j ≤ i ∧ dj.size = n ∧ Hid (R dj wr2) ∧ Hid (At wr2 db [.func (.func g) #[] lb, .func (.func sf) #[] sb]) ∧ Hid (Sort.insInner ltQ a j dj = Sort.insInner ltQ a i dk)) (fun vj _ => (intOf vj).toNat)
      case atStart => exact ⟨i, dk, rfl, by omega, Nat.le_refl _, hsk, HR, HD, rfl⟩
      case round =>
        clear HR HD
        obtain ⟨j, dj, rfl, haj, hji, hsj, HR, HD, HI⟩ := hrel
        have hd_0 := HD.out.c0; have hd_l := HD.out.lt
        have OUT : Hid ((j ≤ a ∨ ltQ dj[j]! dj[j - 1]! = false) → Sort.insOuter ltQ a b (i + 1) dj = Sort.insOuter ltQ a b (a + 1) d) := fun hx => by
          rw [← HO.out, insOuter_go _ _ _ _ _ hlt, ← HI.out, insInner_stop _ _ _ _ hx]
        by_cases hja : a < j
        · have k1 : (a : Int) < (j : Int) := by omega
          have hl := HS.out.less dj _ HR.out hsj j (j - 1) (by omega) (by omega)
          rw [show (((j - 1 : Nat) : Int)) = (j : Int) - 1 by omega] at hl
          cases hlv : ltQ dj[j]! dj[j - 1]! with
          | true =>
            rw [hlv] at hl
            go_wp2_with (go_at_fn g; refine hl.mono ?_; rintro e wx ⟨rfl, hbel, hR'⟩; replace HD := khide (HD.out.up hbel.hid); clear hd_0 hd_l; have hd_1 := HD.out.c1; have hd_l := HD.out.lt)
            obtain ⟨W', hsw, hR2, hfar⟩ := HS.out.swap (by omega) dj _ hR' hsj j (j - 1) (by omega) (by omega)
            rw [show (((j - 1 : Nat) : Int)) = (j : Int) - 1 by omega] at hsw
            rw [hsw, Oper.upon_value]
            have HD2 : Hid (At W' db [.func (.func g) #[] lb, .func (.func sf) #[] sb]) := hfar _ _ hne HD.out
            have HR2 : Hid (R (Sort.swp dj j (j - 1)) W') := hR2
            clear hR2 hR' hfar hsw hl
            go_wp2_with fail
            go_roundw
            case rel => exact ⟨j - 1, Sort.swp dj j (j - 1), by congr 1 <;> omega, by omega, by omega, by rw [Sort.size_swp]; exact hsj, HR2, HD2, khide (by rw [← HI.out, insInner_go ltQ a j dj hja hlv])⟩
            case measure => simp [intOf]; omega
          | false =>
            rw [hlv] at hl
            go_wp2_with (go_at_fn g; refine hl.mono ?_; rintro e wx ⟨rfl, hbel, hR'⟩; replace HD := khide (HD.out.up hbel.hid))
            go_roundw
            case rel => exact ⟨i + 1, dj, by go_num, by omega, by omega, hsj, hR', HD, khide (OUT.out (Or.inr hlv))⟩
            case measure => simp [intOf]; omega
        · have k1 : ¬ (a : Int) < (j : Int) := by omega
          go_wp2_with fail
          go_roundw
          case rel => exact ⟨i + 1, dj, by go_num, by omega, by omega, hsj, HR, HD, khide (OUT.out (Or.inl (by omega)))⟩
          case measure => simp [intOf]; omega
    · have k0 : ¬ (i : Int) < (b : Int) := by omega
      go_wp2_with fail
      go_end0
      exact ⟨rfl, by unfold Sort.insertionSort; rw [← HO.out, insOuter_stop _ _ _ _ _ hlt]; exact HR.out⟩
end Go.Proofs.YthdpojkeceoiiaaGreatDoor
end
