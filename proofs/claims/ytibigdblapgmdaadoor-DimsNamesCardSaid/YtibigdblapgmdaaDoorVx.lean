/- DimsNames: no rows; any rows. No conditions. -/
import Derived.Test.YtibigdblapgmdaaDoorVw
open Go.RowKit
set_option maxRecDepth 100000
namespace Go.Proofs.YtibigdblapgmdaaDoor
theorem names_zero {A A' : Option Addr} {c n' c' : Nat} (w : World) : Calls Tryd.prog 5 #[.slice A 0 c, .slice A' n' c'] w (RetV w true) := by
  have d2 : decide ((n' : Int) < 0) = false := decide_eq_false (by omega)
  have d3 : ¬ (n' : Int) < 0 := by omega
  go_enter Tryd.func5, Tryd.ntmps5
  go_wp2_with (first
    | (go_at_call 7; (with_reducible refine (vawake_h _).mono ?_); rintro e w1 ⟨rfl, hb⟩)
    | (go_at_call 11; (with_reducible refine (newNames_h _).mono ?_); rintro e w2 ⟨p, b, rfl, HN, hbn⟩; replace hb : Hid (Below w.heap.size w w2) := hb.out.trans (hbn.out.mono hb.out.size); clear hbn)
    | fail)
  go_loopw [6, 7] (fun pv iv wr => iv = .int .i64 0 ∧ pv = .slice none 0 0 ∧ Hid (Nms w1.heap.size wr p b none 0 0 [] []) ∧ Hid (Below w.heap.size w wr)) (fun _ _ _ => 0)
  case atStart => exact ⟨rfl, rfl, HN, hb⟩
  case round =>
    obtain ⟨rfl, rfl, HNm, HW⟩ := hrel
    clear HN hb
    go_wp2_with (first
      | (go_at_call 15; (with_reducible refine (vall_h HNm.out (by omega)).mono ?_); rintro e w3 ⟨LA, lc, rfl, HL, hbk⟩; replace HW : Hid (Below w.heap.size w w3) := HW.out.trans (hbk.out.mono HW.out.size); clear hbk HL)
      | fail)
    go_loopw [11] (fun kv wr => kv = .int .i64 0 ∧ Hid (Below w.heap.size w wr)) (fun _ _ => 0)
    case atStart => exact ⟨rfl, HW⟩
    case round =>
      obtain ⟨rfl, HQ⟩ := hrel
      go_wp2_with fail
      go_ret
      exact ⟨rfl, HQ⟩
theorem names_all (w : World) {A A' : Option Addr} {n c n' c' : Nat} {ws : List V8} {xs : List ByteArray}
    (h : n = ws.length ∧ n ≤ c ∧ RV w w.heap.size A ws ∧ ∀ x ∈ ws, x.wf) (h' : n' = xs.length ∧ n' ≤ c' ∧ RS w w.heap.size A' xs) :
    Calls Tryd.prog 5 #[.slice A n c, .slice A' n' c'] w fun e w' => e = .returned (.bool true) ∧ Below w.heap.size w w' := by
  have go : Calls Tryd.prog 5 #[.slice A n c, .slice A' n' c'] w (RetV w true) := by
    obtain ⟨h1, h2, h3, h4⟩ := h
    obtain ⟨k1, k2, k3⟩ := h'
    by_cases c1 : 20 < n
    · exact names_long w c1
    · by_cases c2 : n' < n
      · exact names_few w (by omega) c2
      · by_cases c3 : n = 0
        · subst c3; exact names_zero w
        · obtain ⟨ad, rfl, hb, hc⟩ := h3 (by omega)
          obtain ⟨ad', rfl, hb', hc'⟩ := k3 (by omega)
          refine names_walk (f := fun j => ws.getD j V8.z) (g := fun j => xs.getD j ⟨#[]⟩) w (by omega) (by omega) (by omega) hb hb' (fun j hj i hi => ?_) (fun j hj => ?_) (fun j hj => ?_)
          · have e : ws[j]? = some (ws.getD j V8.z) := by rw [List.getD_eq_getElem?_getD, List.getElem?_eq_getElem (by omega)]; rfl
            exact hc j _ e i hi
          · have e : ws[j]? = some (ws.getD j V8.z) := by rw [List.getD_eq_getElem?_getD, List.getElem?_eq_getElem (by omega)]; rfl
            exact h4 _ (List.mem_of_getElem? e)
          · have e : xs[j]? = some (xs.getD j ⟨#[]⟩) := by rw [List.getD_eq_getElem?_getD, List.getElem?_eq_getElem (by omega)]; rfl
            exact hc' j _ e
  exact go.mono fun _ _ ⟨he, hb⟩ => ⟨he, hb⟩
end Go.Proofs.YtibigdblapgmdaaDoor
