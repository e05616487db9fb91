/- Package locale: pair, write. Conditions: texts that fit. -/
import Derived.Test.YtogekaakpfdhdaaDoorXg
import Derived.Test.YtogekaakpfdhdaaDoorXc
open Go.RowKit
set_option maxRecDepth 100000
namespace Go.Proofs.YtogekaakpfdhdaaDoor.X
theorem bsL_app (a b : LB) : bsL a ++ bsL b = bsL (a ++ b) := by
  refine ByteArray.ext ?_
  simp [bsL]
theorem xcat {a b : LB} (h : a.length + b.length ≤ 1000000) (W : World) : (Op.stringOp .add (bsL a) (bsL b)).run Tryd.prog W = .ok (.string (bsL (a ++ b))) W := by
  refine (run_string_add_sum W (bsL a) (bsL b) (by rw [bsL_size, bsL_size]; omega)).trans ?_
  rw [bsL_app]
theorem pair_h {k v : LB} (hk : k.length ≤ 1000) (hv : v.length ≤ 1000) (w : World) : Calls Tryd.prog 23 #[.string (bsL k), .string (bsL v)] w fun e w' => e = .returned (.string (bsL (pairL k v))) ∧ w = w' := by
  have q1 : ∀ W : World, (Op.stringOp .add ⟨#[45]⟩ (bsL k)).run Tryd.prog W = .ok (.string (bsL (hyL ++ k))) W := xcat (a := hyL) (by simp [hyL]; omega)
  have q2 : ∀ W : World, (Op.stringOp .add (bsL (hyL ++ k)) ⟨#[45]⟩).run Tryd.prog W = .ok (.string (bsL (hyL ++ k ++ hyL))) W := xcat (b := hyL) (by simp [hyL]; omega)
  have q3 : ∀ W : World, (Op.stringOp .add (bsL (hyL ++ k ++ hyL)) (bsL v)).run Tryd.prog W = .ok (.string (bsL (pairL k v))) W := xcat (by simp [hyL]; omega)
  obtain ⟨K, hK⟩ : ∃ K, bsL k = K := ⟨_, rfl⟩
  obtain ⟨V, hV⟩ : ∃ K, bsL v = K := ⟨_, rfl⟩
  obtain ⟨R, hR⟩ : ∃ K, bsL (pairL k v) = K := ⟨_, rfl⟩
  obtain ⟨A, hA⟩ : ∃ K, bsL (hyL ++ k) = K := ⟨_, rfl⟩
  obtain ⟨B, hB⟩ : ∃ K, bsL (hyL ++ k ++ hyL) = K := ⟨_, rfl⟩
  rw [hK, hA] at q1
  rw [hA, hB] at q2
  rw [hB, hV, hR] at q3
  rw [hK, hV, hR]
  clear hK hV hR hA hB
  go_enter Tryd.func23, Tryd.ntmps23
  go_wp2_with fail
  go_ret
  exact ⟨rfl, rfl⟩
end Go.Proofs.YtogekaakpfdhdaaDoor.X
