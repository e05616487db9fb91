/- The law's own awake. No conditions. -/
import Derived.Test.YtogekaakpfdhdaaDoorXk
open Go.RowKit
set_option maxRecDepth 100000
namespace Go.Proofs.YtogekaakpfdhdaaDoor.X
set_option maxHeartbeats 4000000 in
theorem awake14_h {w : World} (hm : Mx w) : Calls Tryd.prog 6 #[] w (RetB w true) := by
  have CP : Hid (∀ W, Bel w W → Calls Tryd.prog 7 #[.string ⟨#[101, 110, 45, 71, 66, 45, 117, 45, 114, 103, 45, 117, 115, 122, 122, 122, 122]⟩] W fun e w' => e = .returned (.tuple #[.agg #[.string ⟨#[101, 110]⟩, .string ⟨#[71, 66]⟩, .string ⟨#[85, 83]⟩, .string ⟨#[]⟩, .string ⟨#[]⟩], .int .i64 0]) ∧ Bel W w') := fun W hw => parse_is (s := [101, 110, 45, 71, 66, 45, 117, 45, 114, 103, 45, 117, 115, 122, 122, 122, 122]) (r := (some (⟨[101, 110], [71, 66], [85, 83], [], []⟩ : LL))) (hm.bel hw) (by decide) (by decide +kernel)
  have CS : Hid (∀ W, Bel w W → Calls Tryd.prog 8 #[.agg #[.string ⟨#[101, 110]⟩, .string ⟨#[71, 66]⟩, .string ⟨#[85, 83]⟩, .string ⟨#[]⟩, .string ⟨#[]⟩]] W (StrX W ⟨#[101, 110, 45, 71, 66, 45, 117, 45, 114, 103, 45, 117, 115, 122, 122, 122, 122]⟩)) := fun W hw => show_is (x := (⟨[101, 110], [71, 66], [85, 83], [], []⟩ : LL)) (t := [101, 110, 45, 71, 66, 45, 117, 45, 114, 103, 45, 117, 115, 122, 122, 122, 122]) (hm.bel hw) (slB_sl (by decide +kernel)) (by decide +kernel) (by decide +kernel)
  have CG : Hid (∀ W, Bel w W → Calls Tryd.prog 10 #[.agg #[.string ⟨#[101, 110]⟩, .string ⟨#[71, 66]⟩, .string ⟨#[85, 83]⟩, .string ⟨#[]⟩, .string ⟨#[]⟩]] W (RetB W true)) := fun W hw => good_is (x := (⟨[101, 110], [71, 66], [85, 83], [], []⟩ : LL)) (b := true) (hm.bel hw) (slB_sl (by decide +kernel)) (by decide +kernel) (by decide +kernel)
  have CL : Hid (∀ W, Calls Tryd.prog 9 #[.agg #[.string ⟨#[101, 110]⟩, .string ⟨#[71, 66]⟩, .string ⟨#[85, 83]⟩, .string ⟨#[]⟩, .string ⟨#[]⟩]] W (StrX W ⟨#[85, 83]⟩)) := fun W => place_is (x := (⟨[101, 110], [71, 66], [85, 83], [], []⟩ : LL)) (t := [85, 83]) W (by decide +kernel)
  have q1 : ∀ W : World, (binOp .eql 25 (.agg #[.string ⟨#[101, 110]⟩, .string ⟨#[71, 66]⟩, .string ⟨#[85, 83]⟩, .string ⟨#[]⟩, .string ⟨#[]⟩]) (.agg #[.string ⟨#[101, 110]⟩, .string ⟨#[71, 66]⟩, .string ⟨#[85, 83]⟩, .string ⟨#[]⟩, .string ⟨#[]⟩])).run Tryd.prog W = .ok (.bool true) W := fun W => by rw [xleq W]; rw [show ((decide _)) = true by simp only [Lib.toList_data]; decide +kernel]
  clear hm
  have HB := Bel.refl w
  go_enter Tryd.func6, Tryd.ntmps6
  go_upto_region 2 with (first | (go_at_call 7; (with_reducible refine (CP.out _ HB).mono ?_); rintro e w1 ⟨rfl, hb⟩; (replace HB := HB.up hb.hid); clear hb) | fail)
  refine xwp_named ?_
  intro W6 hW6
  have HA6 : At W6 w1.heap.size [.string ⟨#[101, 110]⟩, .string ⟨#[71, 66]⟩, .string ⟨#[85, 83]⟩, .string ⟨#[]⟩, .string ⟨#[]⟩] := by rw [hW6]; exact at_new0 _ _ _
  replace HB : Bel w W6 := by rw [hW6]; exact HB.al _
  obtain ⟨p, hp6⟩ : ∃ p, p = w1.heap.size := ⟨_, rfl⟩
  rw [← hp6] at HA6 ⊢
  clear hW6 hp6
  have a_0 := HA6.c0; have a_1 := HA6.c1; have a_2 := HA6.c2; have a_3 := xc3 HA6; have a_4 := xc4 HA6; have a_l := HA6.lt
  go_wp2_with (first
    | (go_at_call 9; (with_reducible refine (CL.out _).mono ?_); rintro e w1 ⟨rfl, hb⟩; (replace HA6 := HA6.up hb.hid); (replace HB := HB.up hb.hid); clear hb a_0 a_1 a_2 a_3 a_4 a_l; have a_0 := HA6.c0; have a_1 := HA6.c1; have a_2 := HA6.c2; have a_3 := xc3 HA6; have a_4 := xc4 HA6; have a_l := HA6.lt)
    | (go_at_call 8; (with_reducible refine (CS.out _ HB).mono ?_); rintro e w1 ⟨rfl, hb⟩; (replace HA6 := HA6.up hb.hid); (replace HB := HB.up hb.hid); clear hb a_0 a_1 a_2 a_3 a_4 a_l; have a_0 := HA6.c0; have a_1 := HA6.c1; have a_2 := HA6.c2; have a_3 := xc3 HA6; have a_4 := xc4 HA6; have a_l := HA6.lt)
    | (go_at_call 10; (with_reducible refine (CG.out _ HB).mono ?_); rintro e w1 ⟨rfl, hb⟩; (replace HA6 := HA6.up hb.hid); (replace HB := HB.up hb.hid); clear hb a_0 a_1 a_2 a_3 a_4 a_l; have a_0 := HA6.c0; have a_1 := HA6.c1; have a_2 := HA6.c2; have a_3 := xc3 HA6; have a_4 := xc4 HA6; have a_l := HA6.lt)
    | fail)
  go_ret
  exact ⟨rfl, HB⟩
end Go.Proofs.YtogekaakpfdhdaaDoor.X
