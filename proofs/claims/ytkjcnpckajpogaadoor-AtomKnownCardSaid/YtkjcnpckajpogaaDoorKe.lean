/- A set of strings as a map; package atom: isGoodList, Good. Conditions: texts and lists that fit. -/
import Derived.Test.YtkjcnpckajpogaaDoorKd
import Derived.Maps.OwnSet
import Derived.Maps.OwnOps
import Derived.StringKeys
open Go.RowKit
set_option maxRecDepth 100000
namespace Go.Proofs.YtkjcnpckajpogaaDoor
theorem skeyed : Go.Maps.Keyed Tryd.prog 9 := Go.Maps.string_keyed Tryd.underlying9
def slit (s : ByteArray) : Lit := .string s.data.toList
theorem skeyOf {s : ByteArray} (h : s.size ≤ 2000000) : keyOf Tryd.prog 9 (.string s) = some (slit s) := Go.WideMaps.keyOf_string_mk Tryd.underlying9 (by unfold maxLen; omega)
theorem slit_inj {a b : ByteArray} (h : slit a = slit b) : a = b := by
  unfold slit at h
  injection h with h
  exact ByteArray.ext (Array.ext' h)
/-- Block b is the set of the strings xs. -/
def SetIs (w : World) (b : Nat) (xs : List ByteArray) : Prop := ∃ D : DataW Unit, w.ownsMap Tryd.prog 9 unitElem b xs.length D ∧ Maps.IsMap D ∧ ∀ s : ByteArray, Maps.has D (slit s) = hasB xs s
theorem setIs_new (w : World) : SetIs (w.alloc (.map #[] 0)) w.heap.size [] :=
  ⟨.map [], World.ownsMap_made _ _ _ _, Maps.isMap_empty, fun _ => rfl⟩
theorem unit_zero (w : World) : (zeroValue 61).run Tryd.prog w = .ok (.agg #[]) w := by kernel_rfl
theorem SetIs.look {w : World} {b : Nat} {xs : List ByteArray} {s : ByteArray} (h : SetIs w b xs) (hs : s.size ≤ 2000000) : (Instr.lookup 60 (.map (some b)) (.string s) true).run Tryd.prog w = .ok (.tuple #[.agg #[], .bool (hasB xs s)]) w := by
  obtain ⟨D, h1, _, h3⟩ := h
  obtain ⟨v, ps, hrun, hv⟩ := h1.look_ok skeyed Tryd.underlying60 (unit_zero _) unitElem_mk (skeyOf hs)
  obtain ⟨rfl, _⟩ := unitElem_inv hv
  rw [hrun, h3]
theorem hasB_snoc (xs : List ByteArray) (x y : ByteArray) : hasB (xs ++ [x]) y = (hasB xs y || decide (x = y)) := by
  unfold hasB; rw [List.any_append]; simp
theorem SetIs.put {w : World} {b : Nat} {xs : List ByteArray} {s : ByteArray} (h : SetIs w b xs) (hs : s.size ≤ 2000000) (hl : xs.length ≤ 2000000) :
    ∃ w', (Instr.mapUpdate 60 (.map (some b)) (.string s) (.agg #[])).run Tryd.prog w = .ok () w' ∧ SetIs w' b (xs ++ [s]) ∧ w.grownBy w' (some b) := by
  obtain ⟨D, h1, h2, h3⟩ := h
  obtain ⟨w', hr, ho, hg⟩ := h1.update skeyed Tryd.underlying60 (by unfold maxLen; omega) (skeyOf hs) unitElem_mk
  refine ⟨w', hr, ⟨_, by simpa using ho, h2.put _ _, fun c => ?_⟩, hg⟩
  rw [hasB_snoc]
  by_cases e : s = c
  · subst e
    rw [Maps.has_put_same h2 (skeyed.key (skeyOf hs))]; simp
  · rw [Maps.has_put_other (fun h5 => e (slit_inj h5).symm), h3, decide_eq_false e, Bool.or_false]
theorem SetIs.lt {w : World} {b : Nat} {xs : List ByteArray} (h : SetIs w b xs) : b < w.heap.size := by
  obtain ⟨D, h1, _⟩ := h; exact h1.lt
theorem SetIs.up {w w' : World} {b : Nat} {xs : List ByteArray} (h : SetIs w b xs) (hb : Hid (Below w.heap.size w w')) : SetIs w' b xs := by
  have e := hb.out.block b h.lt
  obtain ⟨D, ⟨es, clock, h1, F, hs, hD⟩, h2, h3⟩ := h
  exact ⟨D, ⟨es, clock, e.trans h1, F, hs, hD⟩, h2, h3⟩
theorem SetIs.al {w : World} {b : Nat} {xs : List ByteArray} (h : SetIs w b xs) (o : Obj) : SetIs (w.alloc o) b xs := h.up ((Below.refl _ _).alloc (Nat.le_refl _) o)
set_option maxHeartbeats 4000000 in
theorem isGoodList_any {A : Option Addr} {n c : Nat} {xs : List ByteArray} {w : World} (h : Ss w A xs) (hn : n = xs.length) (hl : n ≤ 1000000) (hs : ∀ x ∈ xs, x.size ≤ 2000000) : Calls Tryd.prog 21 #[.slice A n c] w (RetB w (goodL xs)) := by
  have CG := khide wgood_any
  have CR : Hid (∀ (s : ByteArray) (W : World), s.size ≤ 2000000 → Calls Tryd.prog 34 #[.string s] W (RetB W (resB s))) := fun s W h => isReserved_h (by omega) rfl W
  have HN := khide hn
  have HS := khide hs
  have hmm := @run_makeMap Tryd.prog
  clear hn hs
  go_enter Tryd.func21, Tryd.ntmps21
  go_upto_region 3 with fail
  refine kwp_named ?_
  intro W0 hW0
  have HB0 : Bel w W0 := by rw [hW0]; exact (Bel.refl w).al _
  have HT0 : SetIs W0 w.heap.size [] := by rw [hW0]; exact setIs_new w
  obtain ⟨b, hb⟩ : ∃ b, b = w.heap.size := ⟨_, rfl⟩
  rw [← hb] at HT0
  rw [← hb]
  have HBB : Hid (w.heap.size ≤ b) := Nat.le_of_eq hb.symm
  clear hW0 hmm hb
  go_loopw [11] (fun iv wr => ∃ k : Nat, k ≤ n ∧ iv = .int .i64 (k : Int) ∧ Hid (Bel w wr) ∧ Hid (SetIs wr b (xs.take k)) ∧ Hid (goodL (xs.take k) = true)) (fun iv _ => n - (intOf iv).toNat)
  case atStart => exact ⟨0, Nat.zero_le _, rfl, HB0, HT0, goodL_nil⟩
  case round =>
    obtain ⟨k, hk, rfl, HB, HT, HG⟩ := hrel
    by_cases hlt : k < n
    · have hx : k < xs.length := by rw [← HN.out]; exact hlt
      obtain ⟨ad, rfl, had, hcell⟩ := (h.up HB.out.hid).out.at_ hx
      obtain ⟨x, hxe⟩ : ∃ x, x = xs[k] := ⟨_, rfl⟩
      rw [← hxe] at hcell
      have HX : Hid (x.size ≤ 2000000) := HS.out x (by rw [hxe]; exact List.getElem_mem hx)
      obtain ⟨b1, hb1⟩ : ∃ v, hasB (xs.take k) x = v := ⟨_, rfl⟩
      obtain ⟨b2, hb2⟩ : ∃ v, goodW x.data.toList = v := ⟨_, rfl⟩
      obtain ⟨b3, hb3⟩ : ∃ v, resB x = v := ⟨_, rfl⟩
      have hlook := HT.out.look HX.out
      rw [hb1] at hlook
      have C2 : Hid (∀ W : World, Calls Tryd.prog 33 #[.string x] W fun e w' => e = .returned (.bool b2) ∧ W = w') := fun W => hb2 ▸ CG.out x W
      have C3 : Hid (∀ W : World, Calls Tryd.prog 34 #[.string x] W (RetB W b3)) := fun W => hb3 ▸ CR.out x W HX.out
      have HV : Hid (goodL (xs.take (k + 1)) = ((b2 && !b3) && !b1)) := by
        unfold Hid
        rw [goodL_take hx, HG.out, ← hxe, hb1]
        unfold mayB; rw [hb2, hb3]; rfl
      have HF : Hid (goodL (xs.take (k + 1)) = false → goodL xs = false) := goodL_bad hx
      have HX2 : Hid (xs.take (k + 1) = xs.take k ++ [x]) := by rw [hxe]; exact List.take_succ_eq_append_getElem hx
      have HKL : Hid ((xs.take k).length ≤ 2000000) := by unfold Hid; rw [List.length_take]; omega
      clear hb1 hb2 hb3 hxe hx
      have HB1 : Hid (Bel w (wr.alloc (.cells #[] 61))) := HB.out.al _
      by_cases hgo : b1 = false ∧ b2 = true ∧ b3 = false
      · obtain ⟨rfl, rfl, rfl⟩ := hgo
        go_upto_region 8 with (first | (go_at_call 33; (with_reducible refine (C2.out _).mono ?_); rintro e w1 ⟨rfl, rfl⟩) | (go_at_call 34; (with_reducible refine (C3.out _).mono ?_); rintro e w2 ⟨rfl, hb2⟩; replace HB1 : Hid (Bel w w2) := HB1.out.up hb2.hid; have HT2 : Hid (SetIs w2 b (xs.take k)) := (HT.out.al _).up hb2.hid; clear hb2 hlook hcell) | fail)
        obtain ⟨W3, hrun, HT3, hgrow⟩ := HT2.out.put HX.out HKL.out
        have HB3 : Hid (Bel w W3) := Below.grown HB1.out hgrow HB1.out.size (fun q e => by injection e with e; have := HBB.out; omega)
        clear HT HT2 hgrow HB1
        go_wp2
        go_roundw
        case rel => exact ⟨k + 1, by omega, by go_num, HB3, by rw [HX2.out]; exact HT3, HV.out⟩
        case measure => simp [intOf]; omega
      · have HFF : Hid (goodL xs = false) := HF.out (by rw [HV.out]; cases b1 <;> cases b2 <;> cases b3 <;> simp at hgo ⊢)
        cases b1 <;> cases b2 <;> cases b3
        all_goals (try (exfalso; exact hgo ⟨rfl, rfl, rfl⟩))
        all_goals clear hgo
        all_goals go_wp2_with (first | (go_at_call 33; (with_reducible refine (C2.out _).mono ?_); rintro e w1 ⟨rfl, rfl⟩) | (go_at_call 34; (with_reducible refine (C3.out _).mono ?_); rintro e w2 ⟨rfl, hb2⟩; replace HB1 : Hid (Bel w w2) := HB1.out.up hb2.hid) | fail)
        all_goals go_ret
        all_goals exact ⟨ybool HFF.out.symm, HB1.out⟩
    · obtain rfl : k = n := by omega
      go_wp2
      go_ret
      refine ⟨ybool ?_, HB.out⟩
      have h3 := HG.out
      rw [List.take_of_length_le (by rw [← HN.out]; exact Nat.le_refl _)] at h3
      exact h3.symm
end Go.Proofs.YtkjcnpckajpogaaDoor
