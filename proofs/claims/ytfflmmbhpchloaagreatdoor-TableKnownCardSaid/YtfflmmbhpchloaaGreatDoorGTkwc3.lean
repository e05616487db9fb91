/- Each theorem here says its own conditions. -/
import Derived.Test.YtfflmmbhpchloaaGreatDoorGTkwc2
import Derived.Maps.OwnSet
import Derived.Maps.OwnOps
import Derived.StringKeys
import Derived.Laws.MakeOwn
import Derived.Deep.LoopGhost
set_option maxRecDepth 100000
set_option maxHeartbeats 16000000
section
open Go.RowKit
namespace Go.Proofs.YtfflmmbhpchloaaGreatDoor
theorem skeyed : Go.Maps.Keyed Tryz.prog 9 := Go.Maps.string_keyed Tryz.underlying9
def slit (s : ByteArray) : Lit := .string s.data.toList
theorem skeyOf {s : ByteArray} (h : s.size ≤ 2000000) : keyOf Tryz.prog 9 (.string s) = some (slit s) := Go.WideMaps.keyOf_string_mk Tryz.underlying9 (by unfold maxLen; omega)
theorem slit_inj {a b : ByteArray} (h : slit a = slit b) : a = b := by
 unfold slit at h
 injection h with h
 exact ByteArray.ext (Array.ext' h)
def SetIs (w : World) (b : Nat) (xs : List ByteArray) : Prop := ∃ D : DataW Unit, w.ownsMap Tryz.prog 9 unitElem b xs.length D ∧ Maps.IsMap D ∧ ∀ s : ByteArray, Maps.has D (slit s) = hasB xs s
theorem setIs_new (w : World) : SetIs (w.alloc (.map #[] 0)) w.heap.size [] :=
 ⟨.map [], World.ownsMap_made _ _ _ _, Maps.isMap_empty, fun _ => rfl⟩
theorem unit_zero (w : World) : (zeroValue 296).run Tryz.prog w = .ok (.agg #[]) w := by kernel_rfl
theorem SetIs.look {w : World} {b : Nat} {xs : List ByteArray} {s : ByteArray} (h : SetIs w b xs) (hs : s.size ≤ 2000000) : (Instr.lookup 295 (.map (some b)) (.string s) true).run Tryz.prog w = .ok (.tuple #[.agg #[], .bool (hasB xs s)]) w := by
 obtain ⟨D, h1, _, h3⟩ := h
 obtain ⟨v, ps, hrun, hv⟩ := h1.look_ok skeyed Tryz.underlying295 (unit_zero _) unitElem_mk (skeyOf hs)
 obtain ⟨rfl, _⟩ := unitElem_inv hv
 rw [hrun, h3]
theorem hasB_snoc (xs : List ByteArray) (x y : ByteArray) : hasB (xs ++ [x]) y = (hasB xs y || decide (x = y)) := by
 unfold hasB; rw [List.any_append]; simp
theorem SetIs.put {w : World} {b : Nat} {xs : List ByteArray} {s : ByteArray} (h : SetIs w b xs) (hs : s.size ≤ 2000000) (hl : xs.length ≤ 2000000) :
 ∃ w', (Instr.mapUpdate 295 (.map (some b)) (.string s) (.agg #[])).run Tryz.prog w = .ok () w' ∧ SetIs w' b (xs ++ [s]) ∧ w.grownBy w' (some b) := by
 obtain ⟨D, h1, h2, h3⟩ := h
 obtain ⟨w', hr, ho, hg⟩ := h1.update skeyed Tryz.underlying295 (by unfold maxLen; omega) (skeyOf hs) unitElem_mk
 refine ⟨w', hr, ⟨_, by simpa using ho, h2.put _ _, fun c => ?_⟩, hg⟩
 rw [hasB_snoc]
 by_cases e : s = c
 ·subst e
  rw [Maps.has_put_same h2 (skeyed.key (skeyOf hs))]; simp
 ·rw [Maps.has_put_other (fun h5 => e (slit_inj h5).symm), h3, decide_eq_false e, Bool.or_false]
theorem SetIs.lt {w : World} {b : Nat} {xs : List ByteArray} (h : SetIs w b xs) : b < w.heap.size := by
 obtain ⟨D, h1, _⟩ := h; exact h1.lt
theorem SetIs.up {w w' : World} {b : Nat} {xs : List ByteArray} (h : SetIs w b xs) (hb : Hid (Below w.heap.size w w')) : SetIs w' b xs := by
 have e := hb.out.block b h.lt
 obtain ⟨D, ⟨es, clock, h1, F, hs, hD⟩, h2, h3⟩ := h
 exact ⟨D, ⟨es, clock, e.trans h1, F, hs, hD⟩, h2, h3⟩
theorem SetIs.al {w : World} {b : Nat} {xs : List ByteArray} (h : SetIs w b xs) (o : Obj) : SetIs (w.alloc o) b xs := h.up ((Below.refl _ _).alloc (Nat.le_refl _) o)
theorem isGoodList_any {A : Option Addr} {n c : Nat} {xs : List ByteArray} {w : World} (h : Ss w A xs) (hn : n = xs.length) (hl : n ≤ 1000000) (hs : ∀ x ∈ xs, x.size ≤ 2000000) : Calls Tryz.prog 207 #[.slice A n c] w (RetB w (goodL xs)) := by
 have CG := khide wgood_any
 have CR : Hid (∀ (s : ByteArray) (W : World), s.size ≤ 2000000 → Calls Tryz.prog 224 #[.string s] W (RetB W (resB s))) := fun s W h => isReserved_h (by omega) rfl W
 have HN := khide hn
 have HS := khide hs
 have hmm := @run_makeMap Tryz.prog
 clear hn hs
 go_enter Tryz.func207, Tryz.ntmps207
 go_upto_region 3 with fail
 refine kwp_named ?_
 intro W0 hW0
 have HB0 : Bel w W0 := by rw [hW0]; exact (Bel.refl w).al _
 have HT0 : SetIs W0 w.heap.size [] := by rw [hW0]; exact setIs_new w
 obtain ⟨b, hb⟩ : ∃ b, b = w.heap.size := ⟨_, rfl⟩
 rw [← hb] at HT0
 rw [← hb]
 have HBB : Hid (w.heap.size ≤ b) := Nat.le_of_eq hb.symm
 clear hW0 hmm hb
 go_loopw [11] (fun iv wr => ∃ k : Nat, k ≤ n ∧ iv = .int .i64 (k : Int) ∧ Hid (Bel w wr) ∧ Hid (SetIs wr b (xs.take k)) ∧ Hid (goodL (xs.take k) = true)) (fun iv _ => n - (intOf iv).toNat)
 case atStart => exact ⟨0, Nat.zero_le _, rfl, HB0, HT0, goodL_nil⟩
 case round =>
  obtain ⟨k, hk, rfl, HB, HT, HG⟩ := hrel
  by_cases hlt : k < n
  ·have hx : k < xs.length := by rw [← HN.out]; exact hlt
   obtain ⟨ad, rfl, had, hcell⟩ := (h.up HB.out.hid).out.at_ hx
   obtain ⟨x, hxe⟩ : ∃ x, x = xs[k] := ⟨_, rfl⟩
   rw [← hxe] at hcell
   have HX : Hid (x.size ≤ 2000000) := HS.out x (by rw [hxe]; exact List.getElem_mem hx)
   obtain ⟨b1, hb1⟩ : ∃ v, hasB (xs.take k) x = v := ⟨_, rfl⟩
   obtain ⟨b2, hb2⟩ : ∃ v, goodW x.data.toList = v := ⟨_, rfl⟩
   obtain ⟨b3, hb3⟩ : ∃ v, resB x = v := ⟨_, rfl⟩
   have hlook := HT.out.look HX.out
   rw [hb1] at hlook
   have C2 : Hid (∀ W : World, Calls Tryz.prog 56 #[.string x] W fun e w' => e = .returned (.bool b2) ∧ W = w') := fun W => hb2 ▸ CG.out x W
   have C3 : Hid (∀ W : World, Calls Tryz.prog 224 #[.string x] W (RetB W b3)) := fun W => hb3 ▸ CR.out x W HX.out
   have HV : Hid (goodL (xs.take (k + 1)) = ((b2 && !b3) && !b1)) := by
    unfold Hid
    rw [goodL_take hx, HG.out, ← hxe, hb1]
    unfold mayB; rw [hb2, hb3]; rfl
   have HF : Hid (goodL (xs.take (k + 1)) = false → goodL xs = false) := goodL_bad hx
   have HX2 : Hid (xs.take (k + 1) = xs.take k ++ [x]) := by rw [hxe]; exact List.take_succ_eq_append_getElem hx
   have HKL : Hid ((xs.take k).length ≤ 2000000) := by unfold Hid; rw [List.length_take]; omega
   clear hb1 hb2 hb3 hxe hx
   have HB1 : Hid (Bel w (wr.alloc (.cells #[] 296))) := HB.out.al _
   by_cases hgo : b1 = false ∧ b2 = true ∧ b3 = false
   ·obtain ⟨rfl, rfl, rfl⟩ := hgo
    go_upto_region 8 with (first | (go_at_call 56; (with_reducible refine (C2.out _).mono ?_); rintro e w1 ⟨rfl, rfl⟩) | (go_at_call 224; (with_reducible refine (C3.out _).mono ?_); rintro e w2 ⟨rfl, hb2⟩; replace HB1 : Hid (Bel w w2) := HB1.out.up hb2.hid; have HT2 : Hid (SetIs w2 b (xs.take k)) := (HT.out.al _).up hb2.hid; clear hb2 hlook hcell) | fail)
    obtain ⟨W3, hrun, HT3, hgrow⟩ := HT2.out.put HX.out HKL.out
    have HB3 : Hid (Bel w W3) := Below.grown HB1.out hgrow HB1.out.size (fun q e => by injection e with e; have := HBB.out; omega)
    clear HT HT2 hgrow HB1
    go_wp2
    go_roundw
    case rel => exact ⟨k + 1, by omega, by go_num, HB3, by rw [HX2.out]; exact HT3, HV.out⟩
    case measure => simp [intOf]; omega
   ·have HFF : Hid (goodL xs = false) := HF.out (by rw [HV.out]; cases b1 <;> cases b2 <;> cases b3 <;> simp at hgo ⊢)
    cases b1 <;> cases b2 <;> cases b3
    all_goals (try (exfalso; exact hgo ⟨rfl, rfl, rfl⟩))
    all_goals clear hgo
    all_goals go_wp2_with (first | (go_at_call 56; (with_reducible refine (C2.out _).mono ?_); rintro e w1 ⟨rfl, rfl⟩) | (go_at_call 224; (with_reducible refine (C3.out _).mono ?_); rintro e w2 ⟨rfl, hb2⟩; replace HB1 : Hid (Bel w w2) := HB1.out.up hb2.hid) | fail)
    all_goals go_ret
    all_goals exact ⟨ybool HFF.out.symm, HB1.out⟩
  ·obtain rfl : k = n := by omega
   go_wp2
   go_ret
   refine ⟨ybool ?_, HB.out⟩
   have h3 := HG.out
   rw [List.take_of_length_le (by rw [← HN.out]; exact Nat.le_refl _)] at h3
   exact h3.symm
theorem good_any {A B : Option Addr} {n c m d : Nat} {xs ys : List ByteArray} {w : World} (h : Ss w A xs) (hn : n = xs.length) (hl : n ≤ 1000000) (hs : ∀ x ∈ xs, x.size ≤ 2000000) (h' : Ss w B ys) (hm : m = ys.length) (hl' : m ≤ 1000000) (hs' : ∀ x ∈ ys, x.size ≤ 2000000) :
 Calls Tryz.prog 176 #[.agg #[.slice A n c, .slice B m d]] w (RetB w (goodL xs && goodL ys)) := by
 have C1 : Hid (∀ W, Bel w W → Calls Tryz.prog 207 #[.slice A n c] W (RetB W (goodL xs))) := fun W hb => isGoodList_any (h.up hb.hid) hn hl hs
 have C2 : Hid (∀ W, Bel w W → Calls Tryz.prog 207 #[.slice B m d] W (RetB W (goodL ys))) := fun W hb => isGoodList_any (h'.up hb.hid) hm hl' hs'
 obtain ⟨b1, hb1⟩ : ∃ b, goodL xs = b := ⟨_, rfl⟩
 obtain ⟨b2, hb2⟩ : ∃ b, goodL ys = b := ⟨_, rfl⟩
 rw [hb1] at C1
 rw [hb2] at C2
 rw [hb1, hb2]
 clear hb1 hb2 h h' hn hm hl hl' hs hs'
 obtain ⟨W1, hW1⟩ : ∃ X, X = w.alloc (.cells #[.slice A n c, .slice B m d] 62) := ⟨_, rfl⟩
 have HA : At W1 w.heap.size [.slice A n c, .slice B m d] := by rw [hW1]; exact at_new0 _ _ _
 have HB : Bel w W1 := by rw [hW1]; exact (Bel.refl w).al _
 have HW := khide hW1
 clear hW1
 have ha_0 := HA.c0; have ha_1 := HA.c1; have ha_l := HA.lt
 cases b1
 all_goals
  go_enter Tryz.func176, Tryz.ntmps176
  go_upto_region 1 with fail
  rw [← HW.out]
  go_wp2_with (first | (go_at_call 207; (with_reducible refine (C1.out _ HB).mono ?_); rintro e w1 ⟨rfl, hb⟩; replace HA := HA.up hb.hid; replace HB := HB.up hb.hid; clear ha_0 ha_1 ha_l; have ha_0 := HA.c0; have ha_1 := HA.c1; have ha_l := HA.lt) | (go_at_call 207; (with_reducible refine (C2.out _ HB).mono ?_); rintro e w2 ⟨rfl, hb2⟩; replace HB := HB.up hb2.hid) | fail)
  go_ret
  exact ⟨rfl, HB⟩
def lookL {α : Type} (l : List (ByteArray × α)) (s : ByteArray) : Option α := match l with
 | [] => none
 | p :: r => if p.1 = s then some p.2 else lookL r s
section
variable {α β : Type} {l l' : List (ByteArray × α)} {s t : ByteArray} {v : α}
theorem lookL_append : lookL (l ++ l') s = (lookL l s).or (lookL l' s) := by
 induction l with
 | nil => rfl
 | cons p r ih =>
   show (if p.1 = s then some p.2 else lookL (r ++ l') s) = Option.or (if p.1 = s then some p.2 else lookL r s) (lookL l' s)
   by_cases h : p.1 = s
   ·rw [if_pos h, if_pos h]; rfl
   ·rw [if_neg h, if_neg h, ih]
theorem lookL_one : lookL [(t, v)] s = if t = s then some v else none := rfl
theorem lookL_mem (h : lookL l s = some v) : (s, v) ∈ l := by
 induction l with
 | nil => cases h
 | cons p r ih =>
   unfold lookL at h
   by_cases e : p.1 = s
   ·rw [if_pos e] at h; injection h with h; rw [← e, ← h]; exact List.mem_cons_self
   ·rw [if_neg e] at h; exact List.mem_cons_of_mem _ (ih h)
theorem lookL_map (f : α → β) : lookL (l.map fun p => (p.1, f p.2)) s = (lookL l s).map f := by
 induction l with
 | nil => rfl
 | cons p r ih =>
   show (if p.1 = s then some (f p.2) else lookL (r.map fun p => (p.1, f p.2)) s) = Option.map f (if p.1 = s then some p.2 else lookL r s)
   by_cases h : p.1 = s
   ·rw [if_pos h, if_pos h]; rfl
   ·rw [if_neg h, if_neg h, ih]
theorem lookL_none : lookL l s = none ↔ s ∉ l.map (·.1) := by
 induction l with
 | nil => simp [lookL]
 | cons p r ih =>
   show (if p.1 = s then some p.2 else lookL r s) = none ↔ _
   by_cases h : p.1 = s
   ·rw [if_pos h]; simp [h]
   ·rw [if_neg h, ih]; simp [Ne.symm h]
theorem lookL_has : (lookL l s).isSome = hasB (l.map (·.1)) s := by
 cases h : lookL l s with
 | none =>
   have := lookL_none.1 h
   cases hb : hasB (l.map (·.1)) s with
   | false => rfl
   | true => exact absurd (hasB_iff.1 hb) this
 | some v =>
   exact (hasB_iff.2 (List.mem_map_of_mem (f := (·.1)) (lookL_mem h))).symm
end
theorem skeyB {s : ByteArray} (h : s.size ≤ 9223372036854775807) : keyOf Tryz.prog 9 (.string s) = some (slit s) := Go.WideMaps.keyOf_string_mk Tryz.underlying9 (by unfold maxLen; omega)
def tokE (v : Value) : Option (DataW Value × List MemPlace) := some (.held v, [])
def MapV (w : World) (b : Nat) (l : List (ByteArray × Value)) : Prop := ∃ D : DataW Value, w.ownsMap Tryz.prog 9 tokE b l.length D ∧ Maps.IsMap D ∧
 ∀ s : ByteArray, Maps.has D (slit s) = (lookL l s).isSome ∧ ∀ z, D.atKey (slit s) z = match lookL l s with
  | some v => .held v
  | none => z
theorem mapV_new (w : World) : MapV (w.alloc (.map #[] 0)) w.heap.size [] :=
 ⟨.map [], World.ownsMap_made _ _ _ _, Maps.isMap_empty, fun _ => ⟨rfl, fun _ => rfl⟩⟩
section
variable {w w' : World} {b : Nat} {l : List (ByteArray × Value)} {s : ByteArray} {t e : TypeId} {z : Value}
theorem MapV.lt (h : MapV w b l) : b < w.heap.size := by obtain ⟨D, h1, _⟩ := h; exact h1.lt
theorem MapV.keep (h : MapV w b l) (hb : w'.heap[b]? = w.heap[b]?) : MapV w' b l := by
 obtain ⟨D, ⟨es, clock, h1, F, hs, hD⟩, h2, h3⟩ := h
 exact ⟨D, ⟨es, clock, hb.trans h1, F, hs, hD⟩, h2, h3⟩
theorem MapV.up (h : MapV w b l) (hb : Hid (Below w.heap.size w w')) : MapV w' b l := h.keep (hb.out.block b h.lt)
theorem MapV.not_cells (h : MapV w b l) {cs : Array Value} {t : TypeId} {fr : Nat × Nat} (hc : w.heap[b]? = some (.cells cs t fr)) : False := by
 obtain ⟨D, ⟨es, clock, h1, _⟩, _⟩ := h
 rw [h1] at hc
 cases hc
theorem MapV.look (h : MapV w b l) (ht : Tryz.prog.underlying t = some (.map 9 e)) (hz : ∀ w, (zeroValue e).run Tryz.prog w = .ok z w) (hs : s.size ≤ 9223372036854775807) :
 (Instr.lookup t (.map (some b)) (.string s) true).run Tryz.prog w = .ok (.tuple #[(lookL l s).getD z, .bool (lookL l s).isSome]) w := by
 obtain ⟨D, h1, _, h3⟩ := h
 obtain ⟨v, ps, hrun, hv⟩ := h1.look_ok skeyed ht (hz _) (zd := .held z) (zp := []) rfl (skeyB hs)
 rw [(h3 s).2] at hv
 rw [hrun, (h3 s).1]
 cases hl : lookL l s with
 | none => rw [hl] at hv; injection hv with hv; injection hv with hv _; injection hv with hv; rw [hv]; rfl
 | some u => rw [hl] at hv; injection hv with hv; injection hv with hv _; injection hv with hv; rw [hv]; rfl
theorem MapV.get (h : MapV w b l) (ht : Tryz.prog.underlying t = some (.map 9 e)) (hz : ∀ w, (zeroValue e).run Tryz.prog w = .ok z w) (hs : s.size ≤ 9223372036854775807) :
 (Instr.lookup t (.map (some b)) (.string s) false).run Tryz.prog w = .ok ((lookL l s).getD z) w := by
 obtain ⟨D, h1, _, h3⟩ := h
 obtain ⟨v, ps, hrun, hv⟩ := h1.lookup skeyed ht (hz _) (zd := .held z) (zp := []) rfl (skeyB hs)
 rw [(h3 s).2] at hv
 rw [hrun]
 cases hl : lookL l s with
 | none => rw [hl] at hv; injection hv with hv; injection hv with hv _; injection hv with hv; rw [hv]; rfl
 | some u => rw [hl] at hv; injection hv with hv; injection hv with hv _; injection hv with hv; rw [hv]; rfl
theorem MapV.put {v : Value} (h : MapV w b l) (ht : Tryz.prog.underlying t = some (.map 9 e)) (hs : s.size ≤ 2000000) (hl : l.length ≤ 2000000) (hn : lookL l s = none) :
 ∃ w', (Instr.mapUpdate t (.map (some b)) (.string s) v).run Tryz.prog w = .ok () w' ∧ MapV w' b (l ++ [(s, v)]) ∧ w.grownBy w' (some b) := by
 obtain ⟨D, h1, h2, h3⟩ := h
 obtain ⟨w', hr, ho, hg⟩ := h1.update skeyed ht (by unfold maxLen; omega) (skeyOf hs) (d := .held v) (ps := []) rfl
 refine ⟨w', hr, ⟨_, by simpa using ho, h2.put _ _, fun c => ?_⟩, hg⟩
 rw [lookL_append, lookL_one]
 by_cases e : s = c
 ·subst e
  rw [Maps.has_put_same h2 (skeyed.key (skeyOf hs)), hn, if_pos rfl]
  exact ⟨rfl, fun z => by rw [Maps.atKey_put_same h2 (skeyed.key (skeyOf hs))]; rfl⟩
 ·have hne : slit c ≠ slit s := fun h5 => e (slit_inj h5).symm
  rw [Maps.has_put_other hne, if_neg e, Option.or_none]
  exact ⟨(h3 c).1, fun z => by rw [Maps.atKey_put_other hne]; exact (h3 c).2 z⟩
end
theorem lay7 : (∀ (α : Type) (l : List α) (i : Nat) (h : i < l.toArray.size), l.toArray[i] = l[i]'(by simpa using h)) ∧ (∀ (α : Type) (x : α) (l : List α) (h : 0 < (x :: l).length), (x :: l)[0] = x) ∧ (∀ (α : Type) (x : α) (l : List α) (i : Nat) (h : i + 1 < (x :: l).length), (x :: l)[i + 1] = l[i]'(by simpa using h)) ∧
 (∀ (α : Type) (l : List α) (i : Nat) (x : α), l.toArray.setIfInBounds i x = (l.set i x).toArray) ∧ (∀ (α : Type) (x y : α) (l : List α), (x :: l).set 0 y = y :: l) ∧ (∀ (α : Type) (x y : α) (l : List α) (i : Nat), (x :: l).set (i + 1) y = x :: l.set i y) :=
 ⟨fun _ _ _ _ => by simp, fun _ _ _ _ => rfl, fun _ _ _ _ _ => rfl, fun _ _ _ _ => by simp, fun _ _ _ _ => rfl, fun _ _ _ _ _ => rfl⟩
section
variable {P : Program} {md : Region.Mode} {ops : Array Oper} {Q : Exit → Act → World → Prop} {S : World → Prop}
theorem tq (i : Nat) {oi : Oper} {v : Value} {fuel : Nat} {listed m : Array Bool} {a b : Act} {w : World} (h : wpAnyH P md ops Q S fuel m b w)
 (hi : ops[i]? = some oi := by rfl) (hy : ∀ w, S w → (execOp a.eval oi).run P w = .ok (.value v) w := by (intro w hSw; (try dsimp only at hSw); go_simp); (try (with_reducible rfl)))
 (hs : Region.noSelect ops = true := by decide +kernel) (hf : Region.free md ops listed i = true := by decide +kernel) (hr : (Region.ready md ops listed).contains i = true := by decide +kernel)
 (hQ : ∀ c a w, Q (.panic c) (a.put oi.dst v) w → Q (.panic c) a w := by exact fun _ _ _ h => h) (hg : Region.wanted oi (yielded ops a.tmps) = true := by rfl) (hS : S w := by assumption) (hm : listed.setIfInBounds i true = m := by (try simp only [lay7]); all_goals exact rfl) (hb : a.put oi.dst v = b := by (try simp only [lay7, Act.put]); all_goals exact rfl) : wpAnyH P md ops Q S (fuel + 1) listed a w :=
 wpAnyH_take hi hs hf hr hQ (Or.inl ⟨hg, hy⟩) hS (hm ▸ hb ▸ h)
theorem sk (i : Nat) {o : Oper} {fuel : Nat} {listed : Array Bool} {a : Act} {w : World}
 (h : ∀ K' : Act → World → Prop, Shut (∀ a w, S w → (S w → wpAnyH P md ops Q S fuel (listed.setIfInBounds i true) a w) → K' a w) → if Region.wanted o (yielded ops a.tmps) = true then Oper.wp P o a w K' Q else K' (a.put o.dst undef) w)
 (ho : ops[i]? = some o := by rfl) (hr : Region.ready md ops listed = [i] := by decide +kernel) : wpAnyH P md ops Q S (fuel + 1) listed a w :=
 wpAnyH_ready hr (by simp) (AllReadyH.cons ho h AllReadyH.nil)
theorem pk (i : Nat) {oi : Oper} {fuel : Nat} {listed m : Array Bool} {a b : Act} {w : World} (h : wpAnyH P md ops Q S fuel m b w)
 (hi : ops[i]? = some oi := by rfl) (hs : Region.noSelect ops = true := by decide +kernel) (hf : Region.free md ops listed i = true := by decide +kernel) (hr : (Region.ready md ops listed).contains i = true := by decide +kernel)
 (hQ : ∀ c a w, Q (.panic c) (a.put oi.dst undef) w → Q (.panic c) a w := by exact fun _ _ _ h => h) (hg : Region.wanted oi (yielded ops a.tmps) = false := by rfl) (hS : S w := by assumption) (hm : listed.setIfInBounds i true = m := by (try simp only [lay7]); all_goals exact rfl) (hb : a.put oi.dst undef = b := by (try simp only [lay7, Act.put]); all_goals exact rfl) : wpAnyH P md ops Q S (fuel + 1) listed a w :=
 wpAnyH_take hi hs hf hr hQ (Or.inr ⟨hg, rfl⟩) hS (hm ▸ hb ▸ h)
end
theorem Tryz.infoBool : (Tryz.prog.info? 4).map (fun i => (i.zero, i.size, i.bytes)) = some (some (.bool false), 1, 1) := by kernel_rfl
theorem make_bools (n : Nat) (hn : n ≤ 281474976710656) (w : World) : (Instr.makeSlice 287 (.int .i64 (n : Int)) (.int .i64 (n : Int))).run Tryz.prog w =
 .ok (.slice (some ⟨w.heap.size, 0, none⟩) n n) (w.alloc (.cells (madeCells #[.bool false] n) 4)) := by
 obtain ⟨i0, hi0, hz0, hz1, hz2⟩ := info_parts Tryz.infoBool
 have h := run_make (P := Tryz.prog) w 287 4 i0 (.bool false) Tryz.underlying287 hi0 hz0 .i64 .i64 n n (by omega) (by omega) (by rw [hz2]; omega) (by omega)
 simpa [hz1, Value.cells] using h
def Bs (W : World) (q n : Nat) (f : Nat → Bool) : Prop := At W q ((List.range n).map fun i => .bool (f i))
theorem made_bools (w : World) (n : Nat) : Bs (w.alloc (.cells (madeCells #[.bool false] n) 4)) w.heap.size n (fun _ => false) := by
 have e : madeCells #[.bool false] n = ((List.range n).map fun _ => Value.bool false).toArray := by
  apply Array.ext
  ·simp [size_madeCells]
  ·intro i h1 h2
   simp [madeCells, Nat.mod_one]
 rw [e]
 exact at_new0 _ _ _
section
variable {W W' : World} {q n i : Nat} {f : Nat → Bool}
theorem Bs.get (h : Bs W q n f) (hi : i < n) : W.cell? ⟨q, i, none⟩ = some (.bool (f i)) := At.ci h (by rw [List.getElem?_map, List.getElem?_range hi]; rfl)
theorem Bs.fz (h : Bs W q n f) (hi : i < n) : W.frozen? ⟨q, i, none⟩ = false := At.fi (v := .bool (f i)) h (by rw [List.getElem?_map, List.getElem?_range hi]; rfl)
theorem Bs.set (h : Bs W q n f) (hi : i < n) : Bs (W.setCell ⟨q, i, none⟩ (.bool true)) q n (fun j => f j || (i == j)) := by
 have h1 := At.put h (i := i) (by simpa using hi) (.bool true)
 unfold Bs
 have e : ((List.range n).map fun i => Value.bool (f i)).set i (.bool true) = (List.range n).map fun j => Value.bool (f j || (i == j)) := by
  apply List.ext_getElem?
  intro k
  by_cases hk : i = k
  ·subst hk
   rw [List.getElem?_set_self (by simpa using hi), List.getElem?_map, List.getElem?_range hi]; simp
  ·rw [List.getElem?_set_ne hk, List.getElem?_map, List.getElem?_map]
   cases hg : (List.range n)[k]? with
   | none => rfl
   | some x =>
     have hx : x = k := by
      have := List.getElem?_eq_some_iff.1 hg
      obtain ⟨h2, h3⟩ := this
      rw [List.getElem_range] at h3; exact h3.symm
     subst hx
     have : (i == x) = false := beq_eq_false_iff_ne.2 hk
     simp [this]
 rw [← e]; exact h1
theorem Bs.congr {g : Nat → Bool} (h : Bs W q n f) (e : ∀ i, i < n → f i = g i) : Bs W q n g := by
 have e2 : ((List.range n).map fun i => Value.bool (f i)) = (List.range n).map fun i => Value.bool (g i) := by
  apply List.map_congr_left
  intro i hi
  rw [e i (List.mem_range.1 hi)]
 unfold Bs at h ⊢
 rw [← e2]; exact h
end
def sizeP (names ps : List ByteArray) (u : ByteArray) : Nat × Bool := if hasB names u then (0, true) else (lpB names u ps, decide (0 < lpB names u ps))
def RetIB (W : World) (a : Int) (b : Bool) (e : Ending) (w' : World) : Prop := e = .returned (.tuple #[.int .i64 a, .bool b]) ∧ Bel W w'
theorem prefixSize_any {A B : Option Addr} {n c m d : Nat} {names ps : List ByteArray} {u : ByteArray} {w : World} (h : Ss w A names) (hn : n = names.length) (hl : n ≤ 1000000) (h' : Ss w B ps) (hm : m = ps.length) (hl' : m ≤ 1000000) (hu : u.size ≤ 140737488355328) :
 Calls Tryz.prog 193 #[.agg #[.slice A n c, .slice B m d], .string u] w (RetIB w ((sizeP names ps u).1 : Int) (sizeP names ps u).2) := by
 have CS : Hid (∀ (x : ByteArray) (W : World), Calls Tryz.prog 220 #[.string u, .string x] W fun e w' => e = .returned (.bool (Lib.hasSuffix u.data.toList x.data.toList)) ∧ W = w') := fun x W => (Tryz.strings_HasSuffix u x W (by omega)).mono fun e w' ⟨h1, h3⟩ => ⟨h1, h3.symm⟩
 have CP : Hid (∀ (x : ByteArray) (W : World), Calls Tryz.prog 94 #[.string u, .string x] W fun e w' => e = .returned (.bool (Lib.hasPrefix u.data.toList x.data.toList)) ∧ W = w') := fun x W => (Tryz.strings_HasPrefix u x W).mono fun e w' ⟨h1, h3⟩ => ⟨h1, h3.symm⟩
 have HN := khide hn
 have HM := khide hm
 have hmk : ∀ W : World, (Instr.makeSlice 287 (.int .i64 ((u.size : Int) + 1)) (.int .i64 ((u.size : Int) + 1))).run Tryz.prog W = .ok (.slice (some ⟨W.heap.size, 0, none⟩) (u.size + 1) (u.size + 1)) (W.alloc (.cells (madeCells #[.bool false] (u.size + 1)) 4)) := fun W => make_bools (u.size + 1) (by omega) W
 clear hn hm
 obtain ⟨W1, hW1⟩ : ∃ X, X = (w.alloc (.cells #[.slice A n c, .slice B m d] 62)).alloc (.cells (madeCells #[.bool false] (u.size + 1)) 4) := ⟨_, rfl⟩
 have HA : At W1 w.heap.size [.slice A n c, .slice B m d] := by rw [hW1]; exact (at_new0 _ _ _).al _
 have HB : Bel w W1 := by rw [hW1]; exact ((Bel.refl w).al _).al _
 have HE : Bs W1 (w.heap.size + 1) (u.size + 1) (endB (names.take 0) u) := by
  rw [hW1]
  have h2 := made_bools (w.alloc (.cells #[.slice A n c, .slice B m d] 62)) (u.size + 1)
  rw [show (w.alloc (.cells #[.slice A n c, .slice B m d] 62)).heap.size = w.heap.size + 1 by simp] at h2
  exact h2
 have HW := khide hW1
 clear hW1
 have ha_0 := HA.c0; have ha_1 := HA.c1; have ha_l := HA.lt
 go_enter Tryz.func193, Tryz.ntmps193
 go_upto_region 2 with fail
 rw [← HW.out]
 obtain ⟨p, hp⟩ : ∃ p, p = w.heap.size := ⟨_, rfl⟩
 obtain ⟨q, hq⟩ : ∃ p, p = w.heap.size + 1 := ⟨_, rfl⟩
 have HQ : Hid (w.heap.size ≤ q) := by unfold Hid; omega
 have HPQ : Hid (q ≠ p) := by unfold Hid; omega
 rw [← hp] at HA ha_0 ha_1 ha_l
 rw [← hq] at HE
 rw [← hq, ← hp]
 clear HW hmk hp hq
 go_upto_region 3 with fail
 clear ha_0 ha_1 ha_l
 go_loopw [19] (fun iv wr => ∃ k : Nat, k ≤ n ∧ iv = .int .i64 (k : Int) ∧ Hid (Bel w wr) ∧ Hid (At wr p [.slice A n c, .slice B m d]) ∧ Hid (Bs wr q (u.size + 1) (endB (names.take k) u))) (fun iv _ => n - (intOf iv).toNat)
 case atStart => exact ⟨0, Nat.zero_le _, rfl, HB, HA, HE⟩
 case round =>
  clear HB HA HE
  obtain ⟨k, hk, rfl, HB, HA, HE⟩ := hrel
  by_cases hlt : k < n
  ·have hx : k < names.length := by rw [← HN.out]; exact hlt
   obtain ⟨ad, rfl, had, hcell⟩ := (h.up HB.out.hid).out.at_ hx
   obtain ⟨x, hxe⟩ : ∃ x, x = names[k] := ⟨_, rfl⟩
   rw [← hxe] at hcell
   obtain ⟨b, hb⟩ : ∃ b, Lib.hasSuffix u.data.toList x.data.toList = b := ⟨_, rfl⟩
   have CX : Hid (∀ W : World, Calls Tryz.prog 220 #[.string u, .string x] W fun e w' => e = .returned (.bool b) ∧ W = w') := fun W => hb ▸ CS.out x W
   have HV : Hid (∀ i, endB (names.take (k + 1)) u i = (endB (names.take k) u i || (b && (u.size - x.size == i)))) := fun i => by rw [endB_take hx, ← hxe, hb]
   cases b with
   | false =>
     have HE2 : Hid (Bs wr q (u.size + 1) (endB (names.take (k + 1)) u)) := HE.out.congr (fun i _ => by rw [HV.out i]; simp)
     clear hb hxe hx HV
     go_wp2_with (first | (go_at_call 220; (with_reducible refine (CX.out _).mono ?_); rintro e w1 ⟨rfl, rfl⟩) | fail)
     go_roundw
     case rel => exact ⟨k + 1, by omega, by go_num, HB, HA, HE2⟩
     case measure => simp [intOf]; omega
   | true =>
     have hsz : x.size ≤ u.size := ((suffix_iff u x).1 hb).1
     obtain ⟨i, hi⟩ : ∃ i, u.size - x.size = i := ⟨_, rfl⟩
     have e1 : (u.size : Int) - (x.size : Int) = (i : Int) := by omega
     have hi2 : i < u.size + 1 := by omega
     have hi3 : (i : Int) < (u.size : Int) + 1 := by omega
     have e0 := HE.out.get hi2
     have e0f := HE.out.fz hi2
     have e0l := HE.out.lt
     have HE2 : Hid (Bs (wr.setCell ⟨q, i, none⟩ (.bool true)) q (u.size + 1) (endB (names.take (k + 1)) u)) := (HE.out.set hi2).congr (fun j _ => by rw [HV.out j, hi]; rfl)
     have HA2 := khide (HA.out.far (i := i) HPQ.out (.bool true))
     have HB2 : Hid (Bel w (wr.setCell ⟨q, i, none⟩ (.bool true))) := Below.setCell HB.out HQ.out _
     clear hb hxe hx HV hi hsz
     go_wp2_with (first | (go_at_call 220; (with_reducible refine (CX.out _).mono ?_); rintro e w1 ⟨rfl, rfl⟩) | fail)
     go_roundw
     case rel => exact ⟨k + 1, by omega, by go_num, HB2, HA2, HE2⟩
     case measure => simp [intOf]; omega
  ·obtain rfl : k = n := by omega
   have HE2 : Hid (Bs wr q (u.size + 1) (endB names u)) := by
    have h3 := HE.out
    rwa [List.take_of_length_le (by rw [← HN.out]; exact Nat.le_refl _)] at h3
   clear HE hlt hk
   have e0 := HE2.out.get (i := 0) (by omega)
   have el := HE2.out.lt
   obtain ⟨b, hb⟩ : ∃ b, endB names u 0 = b := ⟨_, rfl⟩
   rw [hb] at e0
   have HH : Hid (hasB names u = b) := by
    unfold Hid; rw [← hb, endB_mem (Nat.zero_le _), restB_zero]
   clear hb
   have ha_0 := HA.out.c0; have ha_1 := HA.out.c1; have ha_l := HA.out.lt
   cases b with
   | true =>
     go_wp2
     go_ret2
     refine ⟨?_, HB.out⟩
     unfold sizeP
     rw [HH.out]; rfl
   | false =>
     go_wp2_with fail
     go_loop [9, 40] (fun lv iv => ∃ k : Nat, k ≤ m ∧ iv = .int .i64 (k : Int) ∧ lv = .int .i64 ((lpB names u (ps.take k) : Nat) : Int)) (fun _ iv => m - (intOf iv).toNat)
     case atStart => exact ⟨0, Nat.zero_le _, rfl, rfl⟩
     case round =>
      obtain ⟨k, hk, rfl, rfl⟩ := hrel
      by_cases hlt : k < m
      ·have hx : k < ps.length := by rw [← HM.out]; exact hlt
       obtain ⟨bd, rfl, hbd, hcell⟩ := (h'.up HB.out.hid).out.at_ hx
       obtain ⟨x, hxe⟩ : ∃ x, x = ps[k] := ⟨_, rfl⟩
       rw [← hxe] at hcell
       obtain ⟨b, hb⟩ : ∃ b, Lib.hasPrefix u.data.toList x.data.toList = b := ⟨_, rfl⟩
       obtain ⟨e, he⟩ : ∃ e, hasB names (restB u x.size) = e := ⟨_, rfl⟩
       have CX : Hid (∀ W : World, Calls Tryz.prog 94 #[.string u, .string x] W fun e w' => e = .returned (.bool b) ∧ W = w') := fun W => hb ▸ CP.out x W
       obtain ⟨L, hL⟩ : ∃ L, lpB names u (ps.take k) = L := ⟨_, rfl⟩
       have HV : Hid (lpB names u (ps.take (k + 1)) = if (b && e) then max L x.size else L) := by
        unfold Hid; rw [lpB_take hx, ← hxe, hL]; unfold hitB; rw [hb, he]
       have HLu : Hid (L ≤ u.size) := by unfold Hid; rw [← hL]; exact lpB_le ps k (by omega)
       rw [hL]
       cases b with
       | false =>
         have HV2 : Hid (lpB names u (ps.take (k + 1)) = L) := HV.out
         clear hb he hL hxe hx HV
         go_wp2_with (first | (go_at_call 94; (with_reducible refine (CX.out _).mono ?_); rintro e w1 ⟨rfl, rfl⟩) | fail)
         go_round
         case rel => exact ⟨k + 1, by omega, by go_num, by rw [HV2.out]⟩
         case measure => simp [intOf]; omega
       | true =>
         have hsz : x.size ≤ u.size := by
          have h1 : x.data.toList <+: u.data.toList := List.isPrefixOf_iff_prefix.1 hb
          rw [Lib.size_eq, Lib.size_eq]; exact h1.length_le
         have e1 := HE2.out.get (i := x.size) (by omega)
         rw [endB_mem hsz, he] at e1
         have hi3 : (x.size : Int) < (u.size : Int) + 1 := by omega
         cases e with
         | false =>
           have HV2 : Hid (lpB names u (ps.take (k + 1)) = L) := HV.out
           clear hb he hL hxe hx HV
           go_wp2_with (first | (go_at_call 94; (with_reducible refine (CX.out _).mono ?_); rintro e w1 ⟨rfl, rfl⟩) | fail)
           go_round
           case rel => exact ⟨k + 1, by omega, by go_num, by rw [HV2.out]⟩
           case measure => simp [intOf]; omega
         | true =>
           have HV2 : Hid (lpB names u (ps.take (k + 1)) = max L x.size) := HV.out
           clear hb he hL hxe hx HV
           go_wp2_with (first | (go_at_call 94; (with_reducible refine (CX.out _).mono ?_); rintro e w1 ⟨rfl, rfl⟩) | fail)
           go_round
           case rel => exact ⟨k + 1, by omega, by go_num, by rw [HV2.out, show max (L : Int) (x.size : Int) = ((max L x.size : Nat) : Int) by omega]⟩
           case measure => simp [intOf]; omega
      ·obtain rfl : k = m := by omega
       obtain ⟨L, hL⟩ : ∃ L, lpB names u ps = L := ⟨_, rfl⟩
       have e2 : ps.take k = ps := List.take_of_length_le (by rw [← HM.out]; exact Nat.le_refl _)
       rw [e2, hL]
       have HLL := khide hL
       clear e2 hL
       by_cases h0 : 0 < L
       ·have d0 : decide ((0 : Int) < (L : Int)) = true := decide_eq_true (by omega)
        have HD : Hid (decide (0 < L) = true) := decide_eq_true h0
        clear h0
        go_wp2
        go_ret2
        refine ⟨?_, HB.out⟩
        unfold sizeP
        rw [HH.out, HLL.out]
        simp only [Bool.false_eq_true, if_false]
        rw [HD.out]; try rfl
       ·have d0 : decide ((0 : Int) < (L : Int)) = false := decide_eq_false (by omega)
        have HD : Hid (decide (0 < L) = false) := decide_eq_false h0
        clear h0
        go_wp2
        go_ret2
        refine ⟨?_, HB.out⟩
        unfold sizeP
        rw [HH.out, HLL.out]
        simp only [Bool.false_eq_true, if_false]
        rw [HD.out]; try rfl
end Go.Proofs.YtfflmmbhpchloaaGreatDoor
end
