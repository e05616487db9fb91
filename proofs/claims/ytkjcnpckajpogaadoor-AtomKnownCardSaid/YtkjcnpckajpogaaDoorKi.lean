/- Package atom: Show. Conditions: texts that fit. -/
import Derived.Test.YtkjcnpckajpogaaDoorKh
import Derived.Test.YtkjcnpckajpogaaDoorKjn
open Go.RowKit
set_option maxRecDepth 100000
namespace Go.Proofs.YtkjcnpckajpogaaDoor
def showB (p n : ByteArray) (k : Int) : ByteArray := if k < 1 ∨ 15 < k then eB else if k = 1 then p ++ n else joinS [pwB k.toNat, p ++ n]
theorem lit_ssk (W : World) (xs : List ByteArray) (t : TypeId) : Ss (W.alloc (.cells (xs.map Value.string).toArray t)) (some ⟨W.heap.size, 0, none⟩) xs := fun _ =>
  ⟨⟨W.heap.size, 0, none⟩, rfl, (at_new0 W (xs.map Value.string) t).lt, fun j x hj => by
    rw [show (⟨W.heap.size, 0, none⟩ : Addr).add j = ⟨W.heap.size, j, none⟩ by unfold Addr.add; split <;> simp_all]
    exact (at_new0 W (xs.map Value.string) t).ci (by rw [List.getElem?_map, hj]; rfl)⟩
theorem glue_two (a b : ByteArray) : (glue 45 ([a, b].map (·.data.toList))).length = a.size + b.size + 1 := by
  simp only [List.map_cons, List.map_nil, glue, List.length_append, List.length_cons, Lib.size_eq]; omega
set_option maxHeartbeats 4000000 in
theorem show_any {p n : ByteArray} {k : Int} (hs : p.size + n.size ≤ 140737488355000) (w : World) : Calls Tryd.prog 11 #[.agg #[.string p, .string n, .int .i64 k]] w (StrR w (showB p n k)) := by
  have hs1 : ¬ 9223372036854775807 < p.size + n.size := by omega
  have hs2 : p.size + n.size ≤ 9223372036854775807 := by omega
  obtain ⟨u, hu⟩ : ∃ u, u = p ++ n := ⟨_, rfl⟩
  have huz : u.size = p.size + n.size := by rw [hu, ByteArray.size_append]
  obtain ⟨W1, hW1⟩ : ∃ X, X = w.alloc (.cells #[.string p, .string n, .int .i64 k] 24) := ⟨_, rfl⟩
  have HA : At W1 w.heap.size [.string p, .string n, .int .i64 k] := by rw [hW1]; exact at_new0 _ _ _
  have HB : Bel w W1 := by rw [hW1]; exact (Bel.refl w).al _
  have HW := khide hW1
  have ha_0 := HA.c0; have ha_1 := HA.c1; have ha_2 := HA.c2; have ha_l := HA.lt
  by_cases h1 : k < 1
  · have d1 : decide (k < 1) = true := decide_eq_true h1
    have HV : Hid (showB p n k = eB) := if_pos (.inl h1)
    clear h1 hW1 hu huz
    go_enter Tryd.func11, Tryd.ntmps11
    go_upto_region 1 with fail
    rw [← HW.out]
    go_wp2
    go_ret
    exact ⟨by rw [HV.out]; rfl, HB⟩
  by_cases h2 : 15 < k
  · have d1 : decide (k < 1) = false := decide_eq_false h1
    have d2 : decide (15 < k) = true := decide_eq_true h2
    have HV : Hid (showB p n k = eB) := if_pos (.inr h2)
    clear h1 h2 hW1 hu huz
    go_enter Tryd.func11, Tryd.ntmps11
    go_upto_region 1 with fail
    rw [← HW.out]
    go_wp2
    go_ret
    exact ⟨by rw [HV.out]; rfl, HB⟩
  have d1 : decide (k < 1) = false := decide_eq_false h1
  have d2 : decide (15 < k) = false := decide_eq_false h2
  by_cases h3 : k = 1
  · have d3 : (k == 1) = true := by rw [h3]; rfl
    have HV : Hid (showB p n k = p ++ n) := by unfold Hid showB; rw [if_neg (by omega), if_pos h3]
    clear h1 h2 h3 hW1 hu huz
    go_enter Tryd.func11, Tryd.ntmps11
    go_upto_region 1 with fail
    rw [← HW.out]
    go_wp2
    go_ret
    exact ⟨by rw [HV.out]; rfl, HB⟩
  · obtain ⟨j, rfl⟩ : ∃ j : Nat, k = (j : Int) := ⟨k.toNat, by omega⟩
    have d3 : ((j : Int) == 1) = false := beq_eq_false_iff_ne.2 h3
    have hj2 : 2 ≤ j := by omega
    have hj16 : j < 16 := by omega
    obtain ⟨t, ht⟩ : ∃ t, pwB j = t := ⟨_, rfl⟩
    have CW : Hid (∀ W : World, Calls Tryd.prog 23 #[.int .i64 (j : Int)] W fun e w' => e = .returned (.string t) ∧ W = w') := fun W => ht ▸ powerWord_any hj2 hj16 W
    have htz : t.size ≤ 6 := by rw [← ht]; exact pwB_size j hj16 hj2
    have HV : Hid (showB p n (j : Int) = joinS [t, u]) := by
      unfold Hid showB
      rw [if_neg (by omega), if_neg h3, Int.toNat_natCast, ht, hu]
    have CJ : Hid (∀ W : World, Calls Tryd.prog 22 #[.slice (some ⟨W.heap.size, 0, none⟩) 2 2] (W.alloc (.cells #[.string t, .string u] 9)) (StrR (W.alloc (.cells #[.string t, .string u] 9)) (joinS [t, u]))) := fun W =>
      wjoin_any (lit_ssk W [t, u] 9) rfl (by omega) (by omega) (by rw [glue_two]; omega)
    have huv := khide hu
    clear h1 h2 h3 hW1 ht huz hj2 hj16 htz
    go_enter Tryd.func11, Tryd.ntmps11
    go_upto_region 1 with fail
    rw [← HW.out]
    go_upto_region 4 with fail
    rw [← hu]
    clear hu
    go_wp2_with (first | (go_at_call 23; (with_reducible refine (CW.out _).mono ?_); rintro e w1 ⟨rfl, rfl⟩) | (go_at_call 22; (with_reducible refine (CJ.out _).mono ?_); rintro e w2 ⟨rfl, hb⟩) | fail)
    go_ret
    exact ⟨by rw [HV.out]; rfl, (HB.al _).up hb⟩
end Go.Proofs.YtkjcnpckajpogaaDoor
