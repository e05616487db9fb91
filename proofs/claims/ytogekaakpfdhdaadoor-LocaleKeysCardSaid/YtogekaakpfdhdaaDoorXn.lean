/- LocaleKeys: keys may stand in any order. No conditions. -/
import Derived.Test.YtogekaakpfdhdaaDoorXl
open Go.RowKit
set_option maxRecDepth 100000
namespace Go.Proofs.YtogekaakpfdhdaaDoor.X
set_option maxHeartbeats 8000000 in
theorem keys_t_t {w : World} (hm : Mx w) : Calls Tryd.prog 5 #[.bool true, .bool true] w (RetB w true) := by
  have CA : Hid (∀ W, Bel w W → Calls Tryd.prog 6 #[] W (RetB W true)) := fun W hw => awake14_h (hm.bel hw)
  have C1 : Hid (∀ W, Bel w W → Calls Tryd.prog 7 #[.string ⟨#[101, 110, 45, 67, 65, 45, 117, 45, 109, 115, 45, 109, 101, 116, 114, 105, 99, 45, 114, 103, 45, 103, 98, 122, 122, 122, 122]⟩] W fun e w' => e = .returned (.tuple #[.agg #[.string ⟨#[101, 110]⟩, .string ⟨#[67, 65]⟩, .string ⟨#[71, 66]⟩, .string ⟨#[109, 101, 116, 114, 105, 99]⟩, .string ⟨#[]⟩], .int .i64 0]) ∧ Bel W w') := fun W hw => parse_is (s := [101, 110, 45, 67, 65, 45, 117, 45, 109, 115, 45, 109, 101, 116, 114, 105, 99, 45, 114, 103, 45, 103, 98, 122, 122, 122, 122]) (r := (some (⟨[101, 110], [67, 65], [71, 66], [109, 101, 116, 114, 105, 99], []⟩ : LL))) (hm.bel hw) (by decide) (by decide +kernel)
  have C2 : Hid (∀ W, Bel w W → Calls Tryd.prog 7 #[.string ⟨#[101, 110, 45, 67, 65, 45, 117, 45, 114, 103, 45, 103, 98, 122, 122, 122, 122, 45, 109, 115, 45, 109, 101, 116, 114, 105, 99]⟩] W fun e w' => e = .returned (.tuple #[.agg #[.string ⟨#[101, 110]⟩, .string ⟨#[67, 65]⟩, .string ⟨#[71, 66]⟩, .string ⟨#[109, 101, 116, 114, 105, 99]⟩, .string ⟨#[]⟩], .int .i64 0]) ∧ Bel W w') := fun W hw => parse_is (s := [101, 110, 45, 67, 65, 45, 117, 45, 114, 103, 45, 103, 98, 122, 122, 122, 122, 45, 109, 115, 45, 109, 101, 116, 114, 105, 99]) (r := (some (⟨[101, 110], [67, 65], [71, 66], [109, 101, 116, 114, 105, 99], []⟩ : LL))) (hm.bel hw) (by decide) (by decide +kernel)
  have CS : Hid (∀ W, Bel w W → Calls Tryd.prog 8 #[.agg #[.string ⟨#[101, 110]⟩, .string ⟨#[67, 65]⟩, .string ⟨#[71, 66]⟩, .string ⟨#[109, 101, 116, 114, 105, 99]⟩, .string ⟨#[]⟩]] W (StrX W ⟨#[101, 110, 45, 67, 65, 45, 117, 45, 114, 103, 45, 103, 98, 122, 122, 122, 122, 45, 109, 115, 45, 109, 101, 116, 114, 105, 99]⟩)) := fun W hw => show_is (x := (⟨[101, 110], [67, 65], [71, 66], [109, 101, 116, 114, 105, 99], []⟩ : LL)) (t := [101, 110, 45, 67, 65, 45, 117, 45, 114, 103, 45, 103, 98, 122, 122, 122, 122, 45, 109, 115, 45, 109, 101, 116, 114, 105, 99]) (hm.bel hw) (slB_sl (by decide +kernel)) (by decide +kernel) (by decide +kernel)
  have CL : Hid (∀ W, Calls Tryd.prog 9 #[.agg #[.string ⟨#[101, 110]⟩, .string ⟨#[67, 65]⟩, .string ⟨#[71, 66]⟩, .string ⟨#[109, 101, 116, 114, 105, 99]⟩, .string ⟨#[]⟩]] W (StrX W ⟨#[48, 48, 49]⟩)) := fun W => place_is (x := (⟨[101, 110], [67, 65], [71, 66], [109, 101, 116, 114, 105, 99], []⟩ : LL)) (t := [48, 48, 49]) W (by decide +kernel)
  have q1 : ∀ W : World, (binOp .eql 25 (.agg #[.string ⟨#[101, 110]⟩, .string ⟨#[67, 65]⟩, .string ⟨#[71, 66]⟩, .string ⟨#[109, 101, 116, 114, 105, 99]⟩, .string ⟨#[]⟩]) (.agg #[.string ⟨#[101, 110]⟩, .string ⟨#[67, 65]⟩, .string ⟨#[71, 66]⟩, .string ⟨#[109, 101, 116, 114, 105, 99]⟩, .string ⟨#[]⟩])).run Tryd.prog W = .ok (.bool true) W := fun W => by rw [xleq W]; rw [show ((decide _)) = true by simp only [Lib.toList_data]; decide +kernel]
  have r1 : ∀ W : World, (Op.stringOp .add ⟨#[101, 110, 45, 67, 65, 45, 117, 45, 114, 103, 45, 103, 98, 122, 122, 122, 122, 45, 109, 115, 45]⟩ ⟨#[109, 101, 116, 114, 105, 99]⟩).run Tryd.prog W = .ok (.string ⟨#[101, 110, 45, 67, 65, 45, 117, 45, 114, 103, 45, 103, 98, 122, 122, 122, 122, 45, 109, 115, 45, 109, 101, 116, 114, 105, 99]⟩) W := fun W => xcat (a := [101, 110, 45, 67, 65, 45, 117, 45, 114, 103, 45, 103, 98, 122, 122, 122, 122, 45, 109, 115, 45]) (b := [109, 101, 116, 114, 105, 99]) (by decide) W
  have r2 : ∀ W : World, (Op.stringOp .add ⟨#[101, 110, 45, 67, 65, 45, 117, 45, 109, 115, 45]⟩ ⟨#[109, 101, 116, 114, 105, 99]⟩).run Tryd.prog W = .ok (.string ⟨#[101, 110, 45, 67, 65, 45, 117, 45, 109, 115, 45, 109, 101, 116, 114, 105, 99]⟩) W := fun W => xcat (a := [101, 110, 45, 67, 65, 45, 117, 45, 109, 115, 45]) (b := [109, 101, 116, 114, 105, 99]) (by decide) W
  have r3 : ∀ W : World, (Op.stringOp .add ⟨#[101, 110, 45, 67, 65, 45, 117, 45, 109, 115, 45, 109, 101, 116, 114, 105, 99]⟩ ⟨#[45, 114, 103, 45, 103, 98, 122, 122, 122, 122]⟩).run Tryd.prog W = .ok (.string ⟨#[101, 110, 45, 67, 65, 45, 117, 45, 109, 115, 45, 109, 101, 116, 114, 105, 99, 45, 114, 103, 45, 103, 98, 122, 122, 122, 122]⟩) W := fun W => xcat (a := [101, 110, 45, 67, 65, 45, 117, 45, 109, 115, 45, 109, 101, 116, 114, 105, 99]) (b := [45, 114, 103, 45, 103, 98, 122, 122, 122, 122]) (by decide) W
  clear hm
  have HB := Bel.refl w
  go_enter Tryd.func5, Tryd.ntmps5
  go_upto_region 10 with (first
    | (go_at_call 6; (with_reducible refine (CA.out _ HB).mono ?_); rintro e w1 ⟨rfl, hb⟩; (replace HB := HB.up hb.hid); clear hb)
    | (go_at_call 7; (with_reducible refine (C1.out _ HB).mono ?_); rintro e w2 ⟨rfl, hb⟩; (replace HB := HB.up hb.hid); clear hb)
    | fail)
  refine xwp_named ?_
  intro W6 hW6
  have HA6 : At W6 w2.heap.size [.string ⟨#[101, 110]⟩, .string ⟨#[67, 65]⟩, .string ⟨#[71, 66]⟩, .string ⟨#[109, 101, 116, 114, 105, 99]⟩, .string ⟨#[]⟩] := by rw [hW6]; exact at_new0 _ _ _
  replace HB : Bel w W6 := by rw [hW6]; exact HB.al _
  obtain ⟨p, hp6⟩ : ∃ p, p = w2.heap.size := ⟨_, rfl⟩
  rw [← hp6] at HA6 ⊢
  clear hW6 hp6
  go_upto_region 11 with (first
    | (go_at_call 7; (with_reducible refine (C2.out _ HB).mono ?_); rintro e w4 ⟨rfl, hb⟩; (replace HB := HB.up hb.hid); (replace HA6 := HA6.up hb.hid); clear hb)
    | fail)
  refine xwp_named ?_
  intro W7 hW7
  have HC7 : At W7 w4.heap.size [.string ⟨#[101, 110]⟩, .string ⟨#[67, 65]⟩, .string ⟨#[71, 66]⟩, .string ⟨#[109, 101, 116, 114, 105, 99]⟩, .string ⟨#[]⟩] := by rw [hW7]; exact at_new0 _ _ _
  replace HB : Bel w W7 := by rw [hW7]; exact HB.al _
  replace HA6 : At W7 p [.string ⟨#[101, 110]⟩, .string ⟨#[67, 65]⟩, .string ⟨#[71, 66]⟩, .string ⟨#[109, 101, 116, 114, 105, 99]⟩, .string ⟨#[]⟩] := by rw [hW7]; exact HA6.al _
  obtain ⟨q, hq6⟩ : ∃ p, p = w4.heap.size := ⟨_, rfl⟩
  rw [← hq6] at HC7 ⊢
  clear hW7 hq6
  have HS : Hid (∀ w', Bel W7 w' → w'.cell? ⟨p, 0, none⟩ = some (.string ⟨#[101, 110]⟩) ∧ w'.cell? ⟨p, 1, none⟩ = some (.string ⟨#[67, 65]⟩) ∧ w'.cell? ⟨p, 2, none⟩ = some (.string ⟨#[71, 66]⟩) ∧ w'.cell? ⟨p, 3, none⟩ = some (.string ⟨#[109, 101, 116, 114, 105, 99]⟩) ∧ w'.cell? ⟨p, 4, none⟩ = some (.string ⟨#[]⟩) ∧ w'.cell? ⟨q, 0, none⟩ = some (.string ⟨#[101, 110]⟩) ∧ w'.cell? ⟨q, 1, none⟩ = some (.string ⟨#[67, 65]⟩) ∧ w'.cell? ⟨q, 2, none⟩ = some (.string ⟨#[71, 66]⟩) ∧ w'.cell? ⟨q, 3, none⟩ = some (.string ⟨#[109, 101, 116, 114, 105, 99]⟩) ∧ w'.cell? ⟨q, 4, none⟩ = some (.string ⟨#[]⟩)) := fun w' hb => by
    have h := HA6.up hb.hid
    have k := HC7.up hb.hid
    exact ⟨h.c0, h.c1, h.c2, xc3 h, xc4 h, k.c0, k.c1, k.c2, xc3 k, xc4 k⟩
  have HBX := Bel.refl W7
  go_region_held3 (fun w' => w'.cell? ⟨p, 0, none⟩ = some (.string ⟨#[101, 110]⟩) ∧ w'.cell? ⟨p, 1, none⟩ = some (.string ⟨#[67, 65]⟩) ∧ w'.cell? ⟨p, 2, none⟩ = some (.string ⟨#[71, 66]⟩) ∧ w'.cell? ⟨p, 3, none⟩ = some (.string ⟨#[109, 101, 116, 114, 105, 99]⟩) ∧ w'.cell? ⟨p, 4, none⟩ = some (.string ⟨#[]⟩) ∧ w'.cell? ⟨q, 0, none⟩ = some (.string ⟨#[101, 110]⟩) ∧ w'.cell? ⟨q, 1, none⟩ = some (.string ⟨#[67, 65]⟩) ∧ w'.cell? ⟨q, 2, none⟩ = some (.string ⟨#[71, 66]⟩) ∧ w'.cell? ⟨q, 3, none⟩ = some (.string ⟨#[109, 101, 116, 114, 105, 99]⟩) ∧ w'.cell? ⟨q, 4, none⟩ = some (.string ⟨#[]⟩))
    (first | exact HS.out _ HBX | exact HS.out _ HBX.dr)
    (first
      | (go_at_call 8; (first | (with_reducible refine (CS.out _ (HB.up HBX.hid)).mono ?_) | (with_reducible refine (CS.out _ (HB.up HBX.dr.hid)).mono ?_)); rintro e w5 ⟨rfl, hb⟩; (first | (with_reducible replace HBX := HBX.up hb.hid) | (with_reducible replace HBX := HBX.dr.up hb.hid)); clear hb)
      | (go_at_call 9; (with_reducible refine (CL.out _).mono ?_); rintro e w6 ⟨rfl, hb⟩; (replace HBX := HBX.up hb.hid); clear hb)
      | fail)
  all_goals go_wp2_with fail
  all_goals go_ret
  all_goals exact ⟨rfl, HB.up HBX.hid⟩
set_option maxHeartbeats 8000000 in
theorem keys_t_f {w : World} (hm : Mx w) : Calls Tryd.prog 5 #[.bool true, .bool false] w (RetB w true) := by
  have CA : Hid (∀ W, Bel w W → Calls Tryd.prog 6 #[] W (RetB W true)) := fun W hw => awake14_h (hm.bel hw)
  have C1 : Hid (∀ W, Bel w W → Calls Tryd.prog 7 #[.string ⟨#[101, 110, 45, 67, 65, 45, 117, 45, 109, 115, 45, 117, 107, 115, 121, 115, 116, 101, 109, 45, 114, 103, 45, 103, 98, 122, 122, 122, 122]⟩] W fun e w' => e = .returned (.tuple #[.agg #[.string ⟨#[101, 110]⟩, .string ⟨#[67, 65]⟩, .string ⟨#[71, 66]⟩, .string ⟨#[117, 107, 115, 121, 115, 116, 101, 109]⟩, .string ⟨#[]⟩], .int .i64 0]) ∧ Bel W w') := fun W hw => parse_is (s := [101, 110, 45, 67, 65, 45, 117, 45, 109, 115, 45, 117, 107, 115, 121, 115, 116, 101, 109, 45, 114, 103, 45, 103, 98, 122, 122, 122, 122]) (r := (some (⟨[101, 110], [67, 65], [71, 66], [117, 107, 115, 121, 115, 116, 101, 109], []⟩ : LL))) (hm.bel hw) (by decide) (by decide +kernel)
  have C2 : Hid (∀ W, Bel w W → Calls Tryd.prog 7 #[.string ⟨#[101, 110, 45, 67, 65, 45, 117, 45, 114, 103, 45, 103, 98, 122, 122, 122, 122, 45, 109, 115, 45, 117, 107, 115, 121, 115, 116, 101, 109]⟩] W fun e w' => e = .returned (.tuple #[.agg #[.string ⟨#[101, 110]⟩, .string ⟨#[67, 65]⟩, .string ⟨#[71, 66]⟩, .string ⟨#[117, 107, 115, 121, 115, 116, 101, 109]⟩, .string ⟨#[]⟩], .int .i64 0]) ∧ Bel W w') := fun W hw => parse_is (s := [101, 110, 45, 67, 65, 45, 117, 45, 114, 103, 45, 103, 98, 122, 122, 122, 122, 45, 109, 115, 45, 117, 107, 115, 121, 115, 116, 101, 109]) (r := (some (⟨[101, 110], [67, 65], [71, 66], [117, 107, 115, 121, 115, 116, 101, 109], []⟩ : LL))) (hm.bel hw) (by decide) (by decide +kernel)
  have CS : Hid (∀ W, Bel w W → Calls Tryd.prog 8 #[.agg #[.string ⟨#[101, 110]⟩, .string ⟨#[67, 65]⟩, .string ⟨#[71, 66]⟩, .string ⟨#[117, 107, 115, 121, 115, 116, 101, 109]⟩, .string ⟨#[]⟩]] W (StrX W ⟨#[101, 110, 45, 67, 65, 45, 117, 45, 114, 103, 45, 103, 98, 122, 122, 122, 122, 45, 109, 115, 45, 117, 107, 115, 121, 115, 116, 101, 109]⟩)) := fun W hw => show_is (x := (⟨[101, 110], [67, 65], [71, 66], [117, 107, 115, 121, 115, 116, 101, 109], []⟩ : LL)) (t := [101, 110, 45, 67, 65, 45, 117, 45, 114, 103, 45, 103, 98, 122, 122, 122, 122, 45, 109, 115, 45, 117, 107, 115, 121, 115, 116, 101, 109]) (hm.bel hw) (slB_sl (by decide +kernel)) (by decide +kernel) (by decide +kernel)
  have CL : Hid (∀ W, Calls Tryd.prog 9 #[.agg #[.string ⟨#[101, 110]⟩, .string ⟨#[67, 65]⟩, .string ⟨#[71, 66]⟩, .string ⟨#[117, 107, 115, 121, 115, 116, 101, 109]⟩, .string ⟨#[]⟩]] W (StrX W ⟨#[71, 66]⟩)) := fun W => place_is (x := (⟨[101, 110], [67, 65], [71, 66], [117, 107, 115, 121, 115, 116, 101, 109], []⟩ : LL)) (t := [71, 66]) W (by decide +kernel)
  have q1 : ∀ W : World, (binOp .eql 25 (.agg #[.string ⟨#[101, 110]⟩, .string ⟨#[67, 65]⟩, .string ⟨#[71, 66]⟩, .string ⟨#[117, 107, 115, 121, 115, 116, 101, 109]⟩, .string ⟨#[]⟩]) (.agg #[.string ⟨#[101, 110]⟩, .string ⟨#[67, 65]⟩, .string ⟨#[71, 66]⟩, .string ⟨#[117, 107, 115, 121, 115, 116, 101, 109]⟩, .string ⟨#[]⟩])).run Tryd.prog W = .ok (.bool true) W := fun W => by rw [xleq W]; rw [show ((decide _)) = true by simp only [Lib.toList_data]; decide +kernel]
  have r1 : ∀ W : World, (Op.stringOp .add ⟨#[101, 110, 45, 67, 65, 45, 117, 45, 114, 103, 45, 103, 98, 122, 122, 122, 122, 45, 109, 115, 45]⟩ ⟨#[117, 107, 115, 121, 115, 116, 101, 109]⟩).run Tryd.prog W = .ok (.string ⟨#[101, 110, 45, 67, 65, 45, 117, 45, 114, 103, 45, 103, 98, 122, 122, 122, 122, 45, 109, 115, 45, 117, 107, 115, 121, 115, 116, 101, 109]⟩) W := fun W => xcat (a := [101, 110, 45, 67, 65, 45, 117, 45, 114, 103, 45, 103, 98, 122, 122, 122, 122, 45, 109, 115, 45]) (b := [117, 107, 115, 121, 115, 116, 101, 109]) (by decide) W
  have r2 : ∀ W : World, (Op.stringOp .add ⟨#[101, 110, 45, 67, 65, 45, 117, 45, 109, 115, 45]⟩ ⟨#[117, 107, 115, 121, 115, 116, 101, 109]⟩).run Tryd.prog W = .ok (.string ⟨#[101, 110, 45, 67, 65, 45, 117, 45, 109, 115, 45, 117, 107, 115, 121, 115, 116, 101, 109]⟩) W := fun W => xcat (a := [101, 110, 45, 67, 65, 45, 117, 45, 109, 115, 45]) (b := [117, 107, 115, 121, 115, 116, 101, 109]) (by decide) W
  have r3 : ∀ W : World, (Op.stringOp .add ⟨#[101, 110, 45, 67, 65, 45, 117, 45, 109, 115, 45, 117, 107, 115, 121, 115, 116, 101, 109]⟩ ⟨#[45, 114, 103, 45, 103, 98, 122, 122, 122, 122]⟩).run Tryd.prog W = .ok (.string ⟨#[101, 110, 45, 67, 65, 45, 117, 45, 109, 115, 45, 117, 107, 115, 121, 115, 116, 101, 109, 45, 114, 103, 45, 103, 98, 122, 122, 122, 122]⟩) W := fun W => xcat (a := [101, 110, 45, 67, 65, 45, 117, 45, 109, 115, 45, 117, 107, 115, 121, 115, 116, 101, 109]) (b := [45, 114, 103, 45, 103, 98, 122, 122, 122, 122]) (by decide) W
  clear hm
  have HB := Bel.refl w
  go_enter Tryd.func5, Tryd.ntmps5
  go_upto_region 10 with (first
    | (go_at_call 6; (with_reducible refine (CA.out _ HB).mono ?_); rintro e w1 ⟨rfl, hb⟩; (replace HB := HB.up hb.hid); clear hb)
    | (go_at_call 7; (with_reducible refine (C1.out _ HB).mono ?_); rintro e w2 ⟨rfl, hb⟩; (replace HB := HB.up hb.hid); clear hb)
    | fail)
  refine xwp_named ?_
  intro W6 hW6
  have HA6 : At W6 w2.heap.size [.string ⟨#[101, 110]⟩, .string ⟨#[67, 65]⟩, .string ⟨#[71, 66]⟩, .string ⟨#[117, 107, 115, 121, 115, 116, 101, 109]⟩, .string ⟨#[]⟩] := by rw [hW6]; exact at_new0 _ _ _
  replace HB : Bel w W6 := by rw [hW6]; exact HB.al _
  obtain ⟨p, hp6⟩ : ∃ p, p = w2.heap.size := ⟨_, rfl⟩
  rw [← hp6] at HA6 ⊢
  clear hW6 hp6
  go_upto_region 11 with (first
    | (go_at_call 7; (with_reducible refine (C2.out _ HB).mono ?_); rintro e w4 ⟨rfl, hb⟩; (replace HB := HB.up hb.hid); (replace HA6 := HA6.up hb.hid); clear hb)
    | fail)
  refine xwp_named ?_
  intro W7 hW7
  have HC7 : At W7 w4.heap.size [.string ⟨#[101, 110]⟩, .string ⟨#[67, 65]⟩, .string ⟨#[71, 66]⟩, .string ⟨#[117, 107, 115, 121, 115, 116, 101, 109]⟩, .string ⟨#[]⟩] := by rw [hW7]; exact at_new0 _ _ _
  replace HB : Bel w W7 := by rw [hW7]; exact HB.al _
  replace HA6 : At W7 p [.string ⟨#[101, 110]⟩, .string ⟨#[67, 65]⟩, .string ⟨#[71, 66]⟩, .string ⟨#[117, 107, 115, 121, 115, 116, 101, 109]⟩, .string ⟨#[]⟩] := by rw [hW7]; exact HA6.al _
  obtain ⟨q, hq6⟩ : ∃ p, p = w4.heap.size := ⟨_, rfl⟩
  rw [← hq6] at HC7 ⊢
  clear hW7 hq6
  have HS : Hid (∀ w', Bel W7 w' → w'.cell? ⟨p, 0, none⟩ = some (.string ⟨#[101, 110]⟩) ∧ w'.cell? ⟨p, 1, none⟩ = some (.string ⟨#[67, 65]⟩) ∧ w'.cell? ⟨p, 2, none⟩ = some (.string ⟨#[71, 66]⟩) ∧ w'.cell? ⟨p, 3, none⟩ = some (.string ⟨#[117, 107, 115, 121, 115, 116, 101, 109]⟩) ∧ w'.cell? ⟨p, 4, none⟩ = some (.string ⟨#[]⟩) ∧ w'.cell? ⟨q, 0, none⟩ = some (.string ⟨#[101, 110]⟩) ∧ w'.cell? ⟨q, 1, none⟩ = some (.string ⟨#[67, 65]⟩) ∧ w'.cell? ⟨q, 2, none⟩ = some (.string ⟨#[71, 66]⟩) ∧ w'.cell? ⟨q, 3, none⟩ = some (.string ⟨#[117, 107, 115, 121, 115, 116, 101, 109]⟩) ∧ w'.cell? ⟨q, 4, none⟩ = some (.string ⟨#[]⟩)) := fun w' hb => by
    have h := HA6.up hb.hid
    have k := HC7.up hb.hid
    exact ⟨h.c0, h.c1, h.c2, xc3 h, xc4 h, k.c0, k.c1, k.c2, xc3 k, xc4 k⟩
  have HBX := Bel.refl W7
  go_region_held3 (fun w' => w'.cell? ⟨p, 0, none⟩ = some (.string ⟨#[101, 110]⟩) ∧ w'.cell? ⟨p, 1, none⟩ = some (.string ⟨#[67, 65]⟩) ∧ w'.cell? ⟨p, 2, none⟩ = some (.string ⟨#[71, 66]⟩) ∧ w'.cell? ⟨p, 3, none⟩ = some (.string ⟨#[117, 107, 115, 121, 115, 116, 101, 109]⟩) ∧ w'.cell? ⟨p, 4, none⟩ = some (.string ⟨#[]⟩) ∧ w'.cell? ⟨q, 0, none⟩ = some (.string ⟨#[101, 110]⟩) ∧ w'.cell? ⟨q, 1, none⟩ = some (.string ⟨#[67, 65]⟩) ∧ w'.cell? ⟨q, 2, none⟩ = some (.string ⟨#[71, 66]⟩) ∧ w'.cell? ⟨q, 3, none⟩ = some (.string ⟨#[117, 107, 115, 121, 115, 116, 101, 109]⟩) ∧ w'.cell? ⟨q, 4, none⟩ = some (.string ⟨#[]⟩))
    (first | exact HS.out _ HBX | exact HS.out _ HBX.dr)
    (first
      | (go_at_call 8; (first | (with_reducible refine (CS.out _ (HB.up HBX.hid)).mono ?_) | (with_reducible refine (CS.out _ (HB.up HBX.dr.hid)).mono ?_)); rintro e w5 ⟨rfl, hb⟩; (first | (with_reducible replace HBX := HBX.up hb.hid) | (with_reducible replace HBX := HBX.dr.up hb.hid)); clear hb)
      | (go_at_call 9; (with_reducible refine (CL.out _).mono ?_); rintro e w6 ⟨rfl, hb⟩; (replace HBX := HBX.up hb.hid); clear hb)
      | fail)
  all_goals go_wp2_with fail
  all_goals go_ret
  all_goals exact ⟨rfl, HB.up HBX.hid⟩
set_option maxHeartbeats 8000000 in
theorem keys_f_t {w : World} (hm : Mx w) : Calls Tryd.prog 5 #[.bool false, .bool true] w (RetB w true) := by
  have CA : Hid (∀ W, Bel w W → Calls Tryd.prog 6 #[] W (RetB W true)) := fun W hw => awake14_h (hm.bel hw)
  have C1 : Hid (∀ W, Bel w W → Calls Tryd.prog 7 #[.string ⟨#[101, 110, 45, 67, 65, 45, 117, 45, 114, 103, 45, 103, 98, 122, 122, 122, 122, 45, 109, 115, 45, 109, 101, 116, 114, 105, 99]⟩] W fun e w' => e = .returned (.tuple #[.agg #[.string ⟨#[101, 110]⟩, .string ⟨#[67, 65]⟩, .string ⟨#[71, 66]⟩, .string ⟨#[109, 101, 116, 114, 105, 99]⟩, .string ⟨#[]⟩], .int .i64 0]) ∧ Bel W w') := fun W hw => parse_is (s := [101, 110, 45, 67, 65, 45, 117, 45, 114, 103, 45, 103, 98, 122, 122, 122, 122, 45, 109, 115, 45, 109, 101, 116, 114, 105, 99]) (r := (some (⟨[101, 110], [67, 65], [71, 66], [109, 101, 116, 114, 105, 99], []⟩ : LL))) (hm.bel hw) (by decide) (by decide +kernel)
  have C2 : Hid (∀ W, Bel w W → Calls Tryd.prog 7 #[.string ⟨#[101, 110, 45, 67, 65, 45, 117, 45, 109, 115, 45, 109, 101, 116, 114, 105, 99, 45, 114, 103, 45, 103, 98, 122, 122, 122, 122]⟩] W fun e w' => e = .returned (.tuple #[.agg #[.string ⟨#[101, 110]⟩, .string ⟨#[67, 65]⟩, .string ⟨#[71, 66]⟩, .string ⟨#[109, 101, 116, 114, 105, 99]⟩, .string ⟨#[]⟩], .int .i64 0]) ∧ Bel W w') := fun W hw => parse_is (s := [101, 110, 45, 67, 65, 45, 117, 45, 109, 115, 45, 109, 101, 116, 114, 105, 99, 45, 114, 103, 45, 103, 98, 122, 122, 122, 122]) (r := (some (⟨[101, 110], [67, 65], [71, 66], [109, 101, 116, 114, 105, 99], []⟩ : LL))) (hm.bel hw) (by decide) (by decide +kernel)
  have CS : Hid (∀ W, Bel w W → Calls Tryd.prog 8 #[.agg #[.string ⟨#[101, 110]⟩, .string ⟨#[67, 65]⟩, .string ⟨#[71, 66]⟩, .string ⟨#[109, 101, 116, 114, 105, 99]⟩, .string ⟨#[]⟩]] W (StrX W ⟨#[101, 110, 45, 67, 65, 45, 117, 45, 114, 103, 45, 103, 98, 122, 122, 122, 122, 45, 109, 115, 45, 109, 101, 116, 114, 105, 99]⟩)) := fun W hw => show_is (x := (⟨[101, 110], [67, 65], [71, 66], [109, 101, 116, 114, 105, 99], []⟩ : LL)) (t := [101, 110, 45, 67, 65, 45, 117, 45, 114, 103, 45, 103, 98, 122, 122, 122, 122, 45, 109, 115, 45, 109, 101, 116, 114, 105, 99]) (hm.bel hw) (slB_sl (by decide +kernel)) (by decide +kernel) (by decide +kernel)
  have CL : Hid (∀ W, Calls Tryd.prog 9 #[.agg #[.string ⟨#[101, 110]⟩, .string ⟨#[67, 65]⟩, .string ⟨#[71, 66]⟩, .string ⟨#[109, 101, 116, 114, 105, 99]⟩, .string ⟨#[]⟩]] W (StrX W ⟨#[48, 48, 49]⟩)) := fun W => place_is (x := (⟨[101, 110], [67, 65], [71, 66], [109, 101, 116, 114, 105, 99], []⟩ : LL)) (t := [48, 48, 49]) W (by decide +kernel)
  have q1 : ∀ W : World, (binOp .eql 25 (.agg #[.string ⟨#[101, 110]⟩, .string ⟨#[67, 65]⟩, .string ⟨#[71, 66]⟩, .string ⟨#[109, 101, 116, 114, 105, 99]⟩, .string ⟨#[]⟩]) (.agg #[.string ⟨#[101, 110]⟩, .string ⟨#[67, 65]⟩, .string ⟨#[71, 66]⟩, .string ⟨#[109, 101, 116, 114, 105, 99]⟩, .string ⟨#[]⟩])).run Tryd.prog W = .ok (.bool true) W := fun W => by rw [xleq W]; rw [show ((decide _)) = true by simp only [Lib.toList_data]; decide +kernel]
  have r1 : ∀ W : World, (Op.stringOp .add ⟨#[101, 110, 45, 67, 65, 45, 117, 45, 114, 103, 45, 103, 98, 122, 122, 122, 122, 45, 109, 115, 45]⟩ ⟨#[109, 101, 116, 114, 105, 99]⟩).run Tryd.prog W = .ok (.string ⟨#[101, 110, 45, 67, 65, 45, 117, 45, 114, 103, 45, 103, 98, 122, 122, 122, 122, 45, 109, 115, 45, 109, 101, 116, 114, 105, 99]⟩) W := fun W => xcat (a := [101, 110, 45, 67, 65, 45, 117, 45, 114, 103, 45, 103, 98, 122, 122, 122, 122, 45, 109, 115, 45]) (b := [109, 101, 116, 114, 105, 99]) (by decide) W
  have r2 : ∀ W : World, (Op.stringOp .add ⟨#[101, 110, 45, 67, 65, 45, 117, 45, 109, 115, 45]⟩ ⟨#[109, 101, 116, 114, 105, 99]⟩).run Tryd.prog W = .ok (.string ⟨#[101, 110, 45, 67, 65, 45, 117, 45, 109, 115, 45, 109, 101, 116, 114, 105, 99]⟩) W := fun W => xcat (a := [101, 110, 45, 67, 65, 45, 117, 45, 109, 115, 45]) (b := [109, 101, 116, 114, 105, 99]) (by decide) W
  have r3 : ∀ W : World, (Op.stringOp .add ⟨#[101, 110, 45, 67, 65, 45, 117, 45, 109, 115, 45, 109, 101, 116, 114, 105, 99]⟩ ⟨#[45, 114, 103, 45, 103, 98, 122, 122, 122, 122]⟩).run Tryd.prog W = .ok (.string ⟨#[101, 110, 45, 67, 65, 45, 117, 45, 109, 115, 45, 109, 101, 116, 114, 105, 99, 45, 114, 103, 45, 103, 98, 122, 122, 122, 122]⟩) W := fun W => xcat (a := [101, 110, 45, 67, 65, 45, 117, 45, 109, 115, 45, 109, 101, 116, 114, 105, 99]) (b := [45, 114, 103, 45, 103, 98, 122, 122, 122, 122]) (by decide) W
  clear hm
  have HB := Bel.refl w
  go_enter Tryd.func5, Tryd.ntmps5
  go_upto_region 10 with (first
    | (go_at_call 6; (with_reducible refine (CA.out _ HB).mono ?_); rintro e w1 ⟨rfl, hb⟩; (replace HB := HB.up hb.hid); clear hb)
    | (go_at_call 7; (with_reducible refine (C1.out _ HB).mono ?_); rintro e w2 ⟨rfl, hb⟩; (replace HB := HB.up hb.hid); clear hb)
    | fail)
  refine xwp_named ?_
  intro W6 hW6
  have HA6 : At W6 w2.heap.size [.string ⟨#[101, 110]⟩, .string ⟨#[67, 65]⟩, .string ⟨#[71, 66]⟩, .string ⟨#[109, 101, 116, 114, 105, 99]⟩, .string ⟨#[]⟩] := by rw [hW6]; exact at_new0 _ _ _
  replace HB : Bel w W6 := by rw [hW6]; exact HB.al _
  obtain ⟨p, hp6⟩ : ∃ p, p = w2.heap.size := ⟨_, rfl⟩
  rw [← hp6] at HA6 ⊢
  clear hW6 hp6
  go_upto_region 11 with (first
    | (go_at_call 7; (with_reducible refine (C2.out _ HB).mono ?_); rintro e w4 ⟨rfl, hb⟩; (replace HB := HB.up hb.hid); (replace HA6 := HA6.up hb.hid); clear hb)
    | fail)
  refine xwp_named ?_
  intro W7 hW7
  have HC7 : At W7 w4.heap.size [.string ⟨#[101, 110]⟩, .string ⟨#[67, 65]⟩, .string ⟨#[71, 66]⟩, .string ⟨#[109, 101, 116, 114, 105, 99]⟩, .string ⟨#[]⟩] := by rw [hW7]; exact at_new0 _ _ _
  replace HB : Bel w W7 := by rw [hW7]; exact HB.al _
  replace HA6 : At W7 p [.string ⟨#[101, 110]⟩, .string ⟨#[67, 65]⟩, .string ⟨#[71, 66]⟩, .string ⟨#[109, 101, 116, 114, 105, 99]⟩, .string ⟨#[]⟩] := by rw [hW7]; exact HA6.al _
  obtain ⟨q, hq6⟩ : ∃ p, p = w4.heap.size := ⟨_, rfl⟩
  rw [← hq6] at HC7 ⊢
  clear hW7 hq6
  have HS : Hid (∀ w', Bel W7 w' → w'.cell? ⟨p, 0, none⟩ = some (.string ⟨#[101, 110]⟩) ∧ w'.cell? ⟨p, 1, none⟩ = some (.string ⟨#[67, 65]⟩) ∧ w'.cell? ⟨p, 2, none⟩ = some (.string ⟨#[71, 66]⟩) ∧ w'.cell? ⟨p, 3, none⟩ = some (.string ⟨#[109, 101, 116, 114, 105, 99]⟩) ∧ w'.cell? ⟨p, 4, none⟩ = some (.string ⟨#[]⟩) ∧ w'.cell? ⟨q, 0, none⟩ = some (.string ⟨#[101, 110]⟩) ∧ w'.cell? ⟨q, 1, none⟩ = some (.string ⟨#[67, 65]⟩) ∧ w'.cell? ⟨q, 2, none⟩ = some (.string ⟨#[71, 66]⟩) ∧ w'.cell? ⟨q, 3, none⟩ = some (.string ⟨#[109, 101, 116, 114, 105, 99]⟩) ∧ w'.cell? ⟨q, 4, none⟩ = some (.string ⟨#[]⟩)) := fun w' hb => by
    have h := HA6.up hb.hid
    have k := HC7.up hb.hid
    exact ⟨h.c0, h.c1, h.c2, xc3 h, xc4 h, k.c0, k.c1, k.c2, xc3 k, xc4 k⟩
  have HBX := Bel.refl W7
  go_region_held3 (fun w' => w'.cell? ⟨p, 0, none⟩ = some (.string ⟨#[101, 110]⟩) ∧ w'.cell? ⟨p, 1, none⟩ = some (.string ⟨#[67, 65]⟩) ∧ w'.cell? ⟨p, 2, none⟩ = some (.string ⟨#[71, 66]⟩) ∧ w'.cell? ⟨p, 3, none⟩ = some (.string ⟨#[109, 101, 116, 114, 105, 99]⟩) ∧ w'.cell? ⟨p, 4, none⟩ = some (.string ⟨#[]⟩) ∧ w'.cell? ⟨q, 0, none⟩ = some (.string ⟨#[101, 110]⟩) ∧ w'.cell? ⟨q, 1, none⟩ = some (.string ⟨#[67, 65]⟩) ∧ w'.cell? ⟨q, 2, none⟩ = some (.string ⟨#[71, 66]⟩) ∧ w'.cell? ⟨q, 3, none⟩ = some (.string ⟨#[109, 101, 116, 114, 105, 99]⟩) ∧ w'.cell? ⟨q, 4, none⟩ = some (.string ⟨#[]⟩))
    (first | exact HS.out _ HBX | exact HS.out _ HBX.dr)
    (first
      | (go_at_call 8; (first | (with_reducible refine (CS.out _ (HB.up HBX.hid)).mono ?_) | (with_reducible refine (CS.out _ (HB.up HBX.dr.hid)).mono ?_)); rintro e w5 ⟨rfl, hb⟩; (first | (with_reducible replace HBX := HBX.up hb.hid) | (with_reducible replace HBX := HBX.dr.up hb.hid)); clear hb)
      | (go_at_call 9; (with_reducible refine (CL.out _).mono ?_); rintro e w6 ⟨rfl, hb⟩; (replace HBX := HBX.up hb.hid); clear hb)
      | fail)
  all_goals go_wp2_with fail
  all_goals go_ret
  all_goals exact ⟨rfl, HB.up HBX.hid⟩
set_option maxHeartbeats 8000000 in
theorem keys_f_f {w : World} (hm : Mx w) : Calls Tryd.prog 5 #[.bool false, .bool false] w (RetB w true) := by
  have CA : Hid (∀ W, Bel w W → Calls Tryd.prog 6 #[] W (RetB W true)) := fun W hw => awake14_h (hm.bel hw)
  have C1 : Hid (∀ W, Bel w W → Calls Tryd.prog 7 #[.string ⟨#[101, 110, 45, 67, 65, 45, 117, 45, 114, 103, 45, 103, 98, 122, 122, 122, 122, 45, 109, 115, 45, 117, 107, 115, 121, 115, 116, 101, 109]⟩] W fun e w' => e = .returned (.tuple #[.agg #[.string ⟨#[101, 110]⟩, .string ⟨#[67, 65]⟩, .string ⟨#[71, 66]⟩, .string ⟨#[117, 107, 115, 121, 115, 116, 101, 109]⟩, .string ⟨#[]⟩], .int .i64 0]) ∧ Bel W w') := fun W hw => parse_is (s := [101, 110, 45, 67, 65, 45, 117, 45, 114, 103, 45, 103, 98, 122, 122, 122, 122, 45, 109, 115, 45, 117, 107, 115, 121, 115, 116, 101, 109]) (r := (some (⟨[101, 110], [67, 65], [71, 66], [117, 107, 115, 121, 115, 116, 101, 109], []⟩ : LL))) (hm.bel hw) (by decide) (by decide +kernel)
  have C2 : Hid (∀ W, Bel w W → Calls Tryd.prog 7 #[.string ⟨#[101, 110, 45, 67, 65, 45, 117, 45, 109, 115, 45, 117, 107, 115, 121, 115, 116, 101, 109, 45, 114, 103, 45, 103, 98, 122, 122, 122, 122]⟩] W fun e w' => e = .returned (.tuple #[.agg #[.string ⟨#[101, 110]⟩, .string ⟨#[67, 65]⟩, .string ⟨#[71, 66]⟩, .string ⟨#[117, 107, 115, 121, 115, 116, 101, 109]⟩, .string ⟨#[]⟩], .int .i64 0]) ∧ Bel W w') := fun W hw => parse_is (s := [101, 110, 45, 67, 65, 45, 117, 45, 109, 115, 45, 117, 107, 115, 121, 115, 116, 101, 109, 45, 114, 103, 45, 103, 98, 122, 122, 122, 122]) (r := (some (⟨[101, 110], [67, 65], [71, 66], [117, 107, 115, 121, 115, 116, 101, 109], []⟩ : LL))) (hm.bel hw) (by decide) (by decide +kernel)
  have CS : Hid (∀ W, Bel w W → Calls Tryd.prog 8 #[.agg #[.string ⟨#[101, 110]⟩, .string ⟨#[67, 65]⟩, .string ⟨#[71, 66]⟩, .string ⟨#[117, 107, 115, 121, 115, 116, 101, 109]⟩, .string ⟨#[]⟩]] W (StrX W ⟨#[101, 110, 45, 67, 65, 45, 117, 45, 114, 103, 45, 103, 98, 122, 122, 122, 122, 45, 109, 115, 45, 117, 107, 115, 121, 115, 116, 101, 109]⟩)) := fun W hw => show_is (x := (⟨[101, 110], [67, 65], [71, 66], [117, 107, 115, 121, 115, 116, 101, 109], []⟩ : LL)) (t := [101, 110, 45, 67, 65, 45, 117, 45, 114, 103, 45, 103, 98, 122, 122, 122, 122, 45, 109, 115, 45, 117, 107, 115, 121, 115, 116, 101, 109]) (hm.bel hw) (slB_sl (by decide +kernel)) (by decide +kernel) (by decide +kernel)
  have CL : Hid (∀ W, Calls Tryd.prog 9 #[.agg #[.string ⟨#[101, 110]⟩, .string ⟨#[67, 65]⟩, .string ⟨#[71, 66]⟩, .string ⟨#[117, 107, 115, 121, 115, 116, 101, 109]⟩, .string ⟨#[]⟩]] W (StrX W ⟨#[71, 66]⟩)) := fun W => place_is (x := (⟨[101, 110], [67, 65], [71, 66], [117, 107, 115, 121, 115, 116, 101, 109], []⟩ : LL)) (t := [71, 66]) W (by decide +kernel)
  have q1 : ∀ W : World, (binOp .eql 25 (.agg #[.string ⟨#[101, 110]⟩, .string ⟨#[67, 65]⟩, .string ⟨#[71, 66]⟩, .string ⟨#[117, 107, 115, 121, 115, 116, 101, 109]⟩, .string ⟨#[]⟩]) (.agg #[.string ⟨#[101, 110]⟩, .string ⟨#[67, 65]⟩, .string ⟨#[71, 66]⟩, .string ⟨#[117, 107, 115, 121, 115, 116, 101, 109]⟩, .string ⟨#[]⟩])).run Tryd.prog W = .ok (.bool true) W := fun W => by rw [xleq W]; rw [show ((decide _)) = true by simp only [Lib.toList_data]; decide +kernel]
  have r1 : ∀ W : World, (Op.stringOp .add ⟨#[101, 110, 45, 67, 65, 45, 117, 45, 114, 103, 45, 103, 98, 122, 122, 122, 122, 45, 109, 115, 45]⟩ ⟨#[117, 107, 115, 121, 115, 116, 101, 109]⟩).run Tryd.prog W = .ok (.string ⟨#[101, 110, 45, 67, 65, 45, 117, 45, 114, 103, 45, 103, 98, 122, 122, 122, 122, 45, 109, 115, 45, 117, 107, 115, 121, 115, 116, 101, 109]⟩) W := fun W => xcat (a := [101, 110, 45, 67, 65, 45, 117, 45, 114, 103, 45, 103, 98, 122, 122, 122, 122, 45, 109, 115, 45]) (b := [117, 107, 115, 121, 115, 116, 101, 109]) (by decide) W
  have r2 : ∀ W : World, (Op.stringOp .add ⟨#[101, 110, 45, 67, 65, 45, 117, 45, 109, 115, 45]⟩ ⟨#[117, 107, 115, 121, 115, 116, 101, 109]⟩).run Tryd.prog W = .ok (.string ⟨#[101, 110, 45, 67, 65, 45, 117, 45, 109, 115, 45, 117, 107, 115, 121, 115, 116, 101, 109]⟩) W := fun W => xcat (a := [101, 110, 45, 67, 65, 45, 117, 45, 109, 115, 45]) (b := [117, 107, 115, 121, 115, 116, 101, 109]) (by decide) W
  have r3 : ∀ W : World, (Op.stringOp .add ⟨#[101, 110, 45, 67, 65, 45, 117, 45, 109, 115, 45, 117, 107, 115, 121, 115, 116, 101, 109]⟩ ⟨#[45, 114, 103, 45, 103, 98, 122, 122, 122, 122]⟩).run Tryd.prog W = .ok (.string ⟨#[101, 110, 45, 67, 65, 45, 117, 45, 109, 115, 45, 117, 107, 115, 121, 115, 116, 101, 109, 45, 114, 103, 45, 103, 98, 122, 122, 122, 122]⟩) W := fun W => xcat (a := [101, 110, 45, 67, 65, 45, 117, 45, 109, 115, 45, 117, 107, 115, 121, 115, 116, 101, 109]) (b := [45, 114, 103, 45, 103, 98, 122, 122, 122, 122]) (by decide) W
  clear hm
  have HB := Bel.refl w
  go_enter Tryd.func5, Tryd.ntmps5
  go_upto_region 10 with (first
    | (go_at_call 6; (with_reducible refine (CA.out _ HB).mono ?_); rintro e w1 ⟨rfl, hb⟩; (replace HB := HB.up hb.hid); clear hb)
    | (go_at_call 7; (with_reducible refine (C1.out _ HB).mono ?_); rintro e w2 ⟨rfl, hb⟩; (replace HB := HB.up hb.hid); clear hb)
    | fail)
  refine xwp_named ?_
  intro W6 hW6
  have HA6 : At W6 w2.heap.size [.string ⟨#[101, 110]⟩, .string ⟨#[67, 65]⟩, .string ⟨#[71, 66]⟩, .string ⟨#[117, 107, 115, 121, 115, 116, 101, 109]⟩, .string ⟨#[]⟩] := by rw [hW6]; exact at_new0 _ _ _
  replace HB : Bel w W6 := by rw [hW6]; exact HB.al _
  obtain ⟨p, hp6⟩ : ∃ p, p = w2.heap.size := ⟨_, rfl⟩
  rw [← hp6] at HA6 ⊢
  clear hW6 hp6
  go_upto_region 11 with (first
    | (go_at_call 7; (with_reducible refine (C2.out _ HB).mono ?_); rintro e w4 ⟨rfl, hb⟩; (replace HB := HB.up hb.hid); (replace HA6 := HA6.up hb.hid); clear hb)
    | fail)
  refine xwp_named ?_
  intro W7 hW7
  have HC7 : At W7 w4.heap.size [.string ⟨#[101, 110]⟩, .string ⟨#[67, 65]⟩, .string ⟨#[71, 66]⟩, .string ⟨#[117, 107, 115, 121, 115, 116, 101, 109]⟩, .string ⟨#[]⟩] := by rw [hW7]; exact at_new0 _ _ _
  replace HB : Bel w W7 := by rw [hW7]; exact HB.al _
  replace HA6 : At W7 p [.string ⟨#[101, 110]⟩, .string ⟨#[67, 65]⟩, .string ⟨#[71, 66]⟩, .string ⟨#[117, 107, 115, 121, 115, 116, 101, 109]⟩, .string ⟨#[]⟩] := by rw [hW7]; exact HA6.al _
  obtain ⟨q, hq6⟩ : ∃ p, p = w4.heap.size := ⟨_, rfl⟩
  rw [← hq6] at HC7 ⊢
  clear hW7 hq6
  have HS : Hid (∀ w', Bel W7 w' → w'.cell? ⟨p, 0, none⟩ = some (.string ⟨#[101, 110]⟩) ∧ w'.cell? ⟨p, 1, none⟩ = some (.string ⟨#[67, 65]⟩) ∧ w'.cell? ⟨p, 2, none⟩ = some (.string ⟨#[71, 66]⟩) ∧ w'.cell? ⟨p, 3, none⟩ = some (.string ⟨#[117, 107, 115, 121, 115, 116, 101, 109]⟩) ∧ w'.cell? ⟨p, 4, none⟩ = some (.string ⟨#[]⟩) ∧ w'.cell? ⟨q, 0, none⟩ = some (.string ⟨#[101, 110]⟩) ∧ w'.cell? ⟨q, 1, none⟩ = some (.string ⟨#[67, 65]⟩) ∧ w'.cell? ⟨q, 2, none⟩ = some (.string ⟨#[71, 66]⟩) ∧ w'.cell? ⟨q, 3, none⟩ = some (.string ⟨#[117, 107, 115, 121, 115, 116, 101, 109]⟩) ∧ w'.cell? ⟨q, 4, none⟩ = some (.string ⟨#[]⟩)) := fun w' hb => by
    have h := HA6.up hb.hid
    have k := HC7.up hb.hid
    exact ⟨h.c0, h.c1, h.c2, xc3 h, xc4 h, k.c0, k.c1, k.c2, xc3 k, xc4 k⟩
  have HBX := Bel.refl W7
  go_region_held3 (fun w' => w'.cell? ⟨p, 0, none⟩ = some (.string ⟨#[101, 110]⟩) ∧ w'.cell? ⟨p, 1, none⟩ = some (.string ⟨#[67, 65]⟩) ∧ w'.cell? ⟨p, 2, none⟩ = some (.string ⟨#[71, 66]⟩) ∧ w'.cell? ⟨p, 3, none⟩ = some (.string ⟨#[117, 107, 115, 121, 115, 116, 101, 109]⟩) ∧ w'.cell? ⟨p, 4, none⟩ = some (.string ⟨#[]⟩) ∧ w'.cell? ⟨q, 0, none⟩ = some (.string ⟨#[101, 110]⟩) ∧ w'.cell? ⟨q, 1, none⟩ = some (.string ⟨#[67, 65]⟩) ∧ w'.cell? ⟨q, 2, none⟩ = some (.string ⟨#[71, 66]⟩) ∧ w'.cell? ⟨q, 3, none⟩ = some (.string ⟨#[117, 107, 115, 121, 115, 116, 101, 109]⟩) ∧ w'.cell? ⟨q, 4, none⟩ = some (.string ⟨#[]⟩))
    (first | exact HS.out _ HBX | exact HS.out _ HBX.dr)
    (first
      | (go_at_call 8; (first | (with_reducible refine (CS.out _ (HB.up HBX.hid)).mono ?_) | (with_reducible refine (CS.out _ (HB.up HBX.dr.hid)).mono ?_)); rintro e w5 ⟨rfl, hb⟩; (first | (with_reducible replace HBX := HBX.up hb.hid) | (with_reducible replace HBX := HBX.dr.up hb.hid)); clear hb)
      | (go_at_call 9; (with_reducible refine (CL.out _).mono ?_); rintro e w6 ⟨rfl, hb⟩; (replace HBX := HBX.up hb.hid); clear hb)
      | fail)
  all_goals go_wp2_with fail
  all_goals go_ret
  all_goals exact ⟨rfl, HB.up HBX.hid⟩
theorem keys_walk {w : World} (hm : Mx w) (a b : Bool) : Calls Tryd.prog 5 #[.bool a, .bool b] w (RetB w true) := by
  cases a <;> cases b
  · exact keys_f_f hm
  · exact keys_f_t hm
  · exact keys_t_f hm
  · exact keys_t_t hm
end Go.Proofs.YtogekaakpfdhdaaDoor.X
