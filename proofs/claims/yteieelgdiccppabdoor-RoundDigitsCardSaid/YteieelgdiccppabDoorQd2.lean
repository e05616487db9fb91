/- Package rat: Int, Floor. -/
import Derived.Test.YteieelgdiccppabDoorGWdc14
import Derived.Test.YteieelgdiccppabDoorZgl
open Go.RowKit
set_option maxRecDepth 100000
namespace Go.Proofs.YteieelgdiccppabDoor
section
variable {W : World} {b b' : Bool} {A A' : Option Addr} {n n' c c' m m' : Nat} {z z' : Int} {r : Rat} {K : Nat}
set_option maxHeartbeats 2000000 in
theorem int_h {k : Int} (h1 : -9223372036854775808 ≤ k) (h2 : k ≤ 9223372036854775807) : Calls Tryd.prog 58 #[.int .i64 k] W (QR W (k : Rat)) := by
  have CO : Hid (∀ W', Calls Tryd.prog 42 #[.int .i64 k] W' (ZR W' k)) := fun W' => zof_h h1 h2
  have C1 : Hid (∀ W', Calls Tryd.prog 9 #[.int .u64 1] W' (NumR W' 1)) := fun W' => of_h (v := 1) (by omega)
  have HB := Bel.refl W
  go_enter Tryd.func58, Tryd.ntmps58
  go_wp2_with (first | (go_at_call 42; (with_reducible refine (CO.out _).mono ?_); rintro e w1 ⟨B, e1, rfl, nz, hbk⟩; have HR := At.up (at_new0 _ _ _) hbk; replace HB := (HB.al _).up hbk) | (go_at_call 9; (with_reducible refine (C1.out _).mono ?_); rintro e w2 ⟨B', e2, rfl, nd, hbk⟩; replace HB := HB.up hbk; replace HR := HR.up hbk; replace nz := nz.up hbk; have hr_0 := HR.c0; have hr_1 := HR.c1; have hr_2 := HR.c2; have hr_l := HR.lt; have hr_f0 := HR.f0; have hr_f1 := HR.f1; have hr_f2 := HR.f2) | fail)
  refine bodyPost_ret (v := .agg #[.bool (decide (k < 0)), .slice B (dl k.natAbs) e1, .slice B' (dl 1) e2]) (by simp [results, Tryd.results58, go_sem, hr_0, hr_1, hr_2]) rfl ?_
  exact ⟨B, e1, B', e2, rfl, zr_of (nz.1.put3 HR now3), nd.put3 HR now3, below3 HB (Nat.le_refl _) _ _ _⟩
end
end Go.Proofs.YteieelgdiccppabDoor
