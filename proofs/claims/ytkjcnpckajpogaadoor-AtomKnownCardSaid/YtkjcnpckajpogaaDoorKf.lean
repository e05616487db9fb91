/- Package atom: Good. Conditions: texts and lists that fit. -/
import Derived.Test.YtkjcnpckajpogaaDoorKe
open Go.RowKit
set_option maxRecDepth 100000
namespace Go.Proofs.YtkjcnpckajpogaaDoor
set_option maxHeartbeats 2000000 in
theorem good_any {A B : Option Addr} {n c m d : Nat} {xs ys : List ByteArray} {w : World} (h : Ss w A xs) (hn : n = xs.length) (hl : n ≤ 1000000) (hs : ∀ x ∈ xs, x.size ≤ 2000000) (h' : Ss w B ys) (hm : m = ys.length) (hl' : m ≤ 1000000) (hs' : ∀ x ∈ ys, x.size ≤ 2000000) :
    Calls Tryd.prog 10 #[.agg #[.slice A n c, .slice B m d]] w (RetB w (goodL xs && goodL ys)) := by
  have C1 : Hid (∀ W, Bel w W → Calls Tryd.prog 21 #[.slice A n c] W (RetB W (goodL xs))) := fun W hb => isGoodList_any (h.up hb.hid) hn hl hs
  have C2 : Hid (∀ W, Bel w W → Calls Tryd.prog 21 #[.slice B m d] W (RetB W (goodL ys))) := fun W hb => isGoodList_any (h'.up hb.hid) hm hl' hs'
  obtain ⟨b1, hb1⟩ : ∃ b, goodL xs = b := ⟨_, rfl⟩
  obtain ⟨b2, hb2⟩ : ∃ b, goodL ys = b := ⟨_, rfl⟩
  rw [hb1] at C1
  rw [hb2] at C2
  rw [hb1, hb2]
  clear hb1 hb2 h h' hn hm hl hl' hs hs'
  obtain ⟨W1, hW1⟩ : ∃ X, X = w.alloc (.cells #[.slice A n c, .slice B m d] 29) := ⟨_, rfl⟩
  have HA : At W1 w.heap.size [.slice A n c, .slice B m d] := by rw [hW1]; exact at_new0 _ _ _
  have HB : Bel w W1 := by rw [hW1]; exact (Bel.refl w).al _
  have HW := khide hW1
  clear hW1
  have ha_0 := HA.c0; have ha_1 := HA.c1; have ha_l := HA.lt
  cases b1
  all_goals
    go_enter Tryd.func10, Tryd.ntmps10
    go_upto_region 1 with fail
    rw [← HW.out]
    go_wp2_with (first | (go_at_call 21; (with_reducible refine (C1.out _ HB).mono ?_); rintro e w1 ⟨rfl, hb⟩; replace HA := HA.up hb.hid; replace HB := HB.up hb.hid; clear ha_0 ha_1 ha_l; have ha_0 := HA.c0; have ha_1 := HA.c1; have ha_l := HA.lt) | (go_at_call 21; (with_reducible refine (C2.out _ HB).mono ?_); rintro e w2 ⟨rfl, hb2⟩; replace HB := HB.up hb2.hid) | fail)
    go_ret
    exact ⟨rfl, HB⟩
end Go.Proofs.YtkjcnpckajpogaaDoor
