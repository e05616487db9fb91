/- LocaleKnown: what chapter 14 says of what is none, of keys. No conditions. -/
import Derived.Test.YtogekaakpfdhdaaDoorXl
open Go.RowKit
set_option maxRecDepth 100000
namespace Go.Proofs.YtogekaakpfdhdaaDoor.X
def knownT : List LB := [[], [101], [101, 110, 103, 108], [69, 78], [101, 110, 45, 103, 98], [101, 110, 45, 117], [101, 110, 45, 71, 66, 45, 117], [101, 110, 45, 117, 45, 114, 103], [101, 110, 45, 117, 45, 114, 103, 45, 117, 115], [101, 110, 45, 117, 45, 114, 103, 45, 85, 83, 122, 122, 122, 122], [101, 110, 45, 117, 45, 109, 115, 45, 120], [101, 110, 45, 117, 45, 109, 117, 45, 107], [101, 110, 45, 117, 45, 109, 115, 45, 109, 101, 116, 114, 105, 99, 45, 109, 115, 45, 109, 101, 116, 114, 105, 99], [101, 110, 45, 117, 45, 120, 120, 45, 121, 121], [101, 110, 45, 71, 66, 45, 85, 83], [101, 110, 45, 71, 66, 45], [101, 110, 45, 117, 45, 114, 103, 45, 49, 122, 122, 122, 122, 122]]
theorem knownT_no : knownT.all (fun t => eqO (parseL t) none && decide (t.length ≤ 100)) = true := by decide +kernel
theorem knownT_at {k : Nat} (h : k < 17) : ∃ t, knownT[k]? = some t ∧ parseL t = none ∧ t.length ≤ 100 := by
  have hl : k < knownT.length := h
  refine ⟨knownT[k], List.getElem?_eq_getElem hl, ?_⟩
  have h2 := List.all_eq_true.1 knownT_no _ (List.getElem_mem hl)
  rw [Bool.and_eq_true, decide_eq_true_eq] at h2
  exact ⟨eqO_eq h2.1, h2.2⟩
set_option maxHeartbeats 8000000 in
theorem known_walk {w : World} (hm : Mx w) : Calls Tryd.prog 3 #[] w (RetB w true) := by
  have CA : Hid (∀ W, Bel w W → Calls Tryd.prog 6 #[] W (RetB W true)) := fun W hw => awake14_h (hm.bel hw)
  have CN : Hid (∀ (l : LB) W, parseL l = none → l.length ≤ 100 → Bel w W → Calls Tryd.prog 7 #[.string (bsL l)] W fun e w' => e = .returned (.tuple #[.agg #[.string ⟨#[]⟩, .string ⟨#[]⟩, .string ⟨#[]⟩, .string ⟨#[]⟩, .string ⟨#[]⟩], .int .i64 2]) ∧ Bel W w') := fun l W h1 h2 hw => by
    have := parse_h (s := l) (hm.bel hw) (by omega)
    rw [h1] at this; exact this
  have C1 : Hid (∀ W, Bel w W → Calls Tryd.prog 7 #[.string ⟨#[100, 101, 117, 45, 52, 49, 57, 45, 117, 45, 109, 117, 45, 107, 101, 108, 118, 105, 110, 45, 109, 115, 45, 117, 107, 115, 121, 115, 116, 101, 109, 45, 114, 103, 45, 48, 48, 49, 122, 122, 122, 122]⟩] W fun e w' => e = .returned (.tuple #[.agg #[.string ⟨#[100, 101, 117]⟩, .string ⟨#[52, 49, 57]⟩, .string ⟨#[48, 48, 49]⟩, .string ⟨#[117, 107, 115, 121, 115, 116, 101, 109]⟩, .string ⟨#[107, 101, 108, 118, 105, 110]⟩], .int .i64 0]) ∧ Bel W w') := fun W hw => parse_is (s := [100, 101, 117, 45, 52, 49, 57, 45, 117, 45, 109, 117, 45, 107, 101, 108, 118, 105, 110, 45, 109, 115, 45, 117, 107, 115, 121, 115, 116, 101, 109, 45, 114, 103, 45, 48, 48, 49, 122, 122, 122, 122]) (r := (some (⟨[100, 101, 117], [52, 49, 57], [48, 48, 49], [117, 107, 115, 121, 115, 116, 101, 109], [107, 101, 108, 118, 105, 110]⟩ : LL))) (hm.bel hw) (by decide) (by decide +kernel)
  have C2 : Hid (∀ W, Bel w W → Calls Tryd.prog 7 #[.string ⟨#[101, 110]⟩] W fun e w' => e = .returned (.tuple #[.agg #[.string ⟨#[101, 110]⟩, .string ⟨#[]⟩, .string ⟨#[]⟩, .string ⟨#[]⟩, .string ⟨#[]⟩], .int .i64 0]) ∧ Bel W w') := fun W hw => parse_is (s := [101, 110]) (r := (some (⟨[101, 110], [], [], [], []⟩ : LL))) (hm.bel hw) (by decide) (by decide +kernel)
  have CS : Hid (∀ W, Bel w W → Calls Tryd.prog 8 #[.agg #[.string ⟨#[100, 101, 117]⟩, .string ⟨#[52, 49, 57]⟩, .string ⟨#[48, 48, 49]⟩, .string ⟨#[117, 107, 115, 121, 115, 116, 101, 109]⟩, .string ⟨#[107, 101, 108, 118, 105, 110]⟩]] W (StrX W ⟨#[100, 101, 117, 45, 52, 49, 57, 45, 117, 45, 114, 103, 45, 48, 48, 49, 122, 122, 122, 122, 45, 109, 115, 45, 117, 107, 115, 121, 115, 116, 101, 109, 45, 109, 117, 45, 107, 101, 108, 118, 105, 110]⟩)) := fun W hw => show_is (x := (⟨[100, 101, 117], [52, 49, 57], [48, 48, 49], [117, 107, 115, 121, 115, 116, 101, 109], [107, 101, 108, 118, 105, 110]⟩ : LL)) (t := [100, 101, 117, 45, 52, 49, 57, 45, 117, 45, 114, 103, 45, 48, 48, 49, 122, 122, 122, 122, 45, 109, 115, 45, 117, 107, 115, 121, 115, 116, 101, 109, 45, 109, 117, 45, 107, 101, 108, 118, 105, 110]) (hm.bel hw) (slB_sl (by decide +kernel)) (by decide +kernel) (by decide +kernel)
  have CT : Hid (∀ W, Bel w W → Calls Tryd.prog 8 #[.agg #[.string ⟨#[101, 110]⟩, .string ⟨#[103, 98]⟩, .string ⟨#[]⟩, .string ⟨#[]⟩, .string ⟨#[]⟩]] W (StrX W ⟨#[]⟩)) := fun W hw => show_is (x := (⟨[101, 110], [103, 98], [], [], []⟩ : LL)) (t := []) (hm.bel hw) (slB_sl (by decide +kernel)) (by decide +kernel) (by decide +kernel)
  have CG : Hid (∀ W, Bel w W → Calls Tryd.prog 10 #[.agg #[.string ⟨#[101, 110]⟩, .string ⟨#[]⟩, .string ⟨#[]⟩, .string ⟨#[120]⟩, .string ⟨#[]⟩]] W (RetB W false)) := fun W hw => good_is (x := (⟨[101, 110], [], [], [120], []⟩ : LL)) (b := false) (hm.bel hw) (slB_sl (by decide +kernel)) (by decide +kernel) (by decide +kernel)
  have L0 : Hid (∀ W, Calls Tryd.prog 9 #[.agg #[.string ⟨#[100, 101, 117]⟩, .string ⟨#[52, 49, 57]⟩, .string ⟨#[48, 48, 49]⟩, .string ⟨#[117, 107, 115, 121, 115, 116, 101, 109]⟩, .string ⟨#[107, 101, 108, 118, 105, 110]⟩]] W (StrX W ⟨#[71, 66]⟩)) := fun W => place_is (x := (⟨[100, 101, 117], [52, 49, 57], [48, 48, 49], [117, 107, 115, 121, 115, 116, 101, 109], [107, 101, 108, 118, 105, 110]⟩ : LL)) (t := [71, 66]) W (by decide +kernel)
  have L1 : Hid (∀ W, Calls Tryd.prog 9 #[.agg #[.string ⟨#[101, 110]⟩, .string ⟨#[]⟩, .string ⟨#[]⟩, .string ⟨#[]⟩, .string ⟨#[]⟩]] W (StrX W ⟨#[]⟩)) := fun W => place_is (x := (⟨[101, 110], [], [], [], []⟩ : LL)) (t := []) W (by decide +kernel)
  have L2 : Hid (∀ W, Calls Tryd.prog 9 #[.agg #[.string ⟨#[]⟩, .string ⟨#[]⟩, .string ⟨#[85, 83]⟩, .string ⟨#[109, 101, 116, 114, 105, 99]⟩, .string ⟨#[]⟩]] W (StrX W ⟨#[48, 48, 49]⟩)) := fun W => place_is (x := (⟨[], [], [85, 83], [109, 101, 116, 114, 105, 99], []⟩ : LL)) (t := [48, 48, 49]) W (by decide +kernel)
  have L3 : Hid (∀ W, Calls Tryd.prog 9 #[.agg #[.string ⟨#[]⟩, .string ⟨#[]⟩, .string ⟨#[]⟩, .string ⟨#[117, 115, 115, 121, 115, 116, 101, 109]⟩, .string ⟨#[]⟩]] W (StrX W ⟨#[85, 83]⟩)) := fun W => place_is (x := (⟨[], [], [], [117, 115, 115, 121, 115, 116, 101, 109], []⟩ : LL)) (t := [85, 83]) W (by decide +kernel)
  have q1 : ∀ W : World, (binOp .eql 25 (.agg #[.string ⟨#[100, 101, 117]⟩, .string ⟨#[52, 49, 57]⟩, .string ⟨#[48, 48, 49]⟩, .string ⟨#[117, 107, 115, 121, 115, 116, 101, 109]⟩, .string ⟨#[107, 101, 108, 118, 105, 110]⟩]) (.agg #[.string ⟨#[100, 101, 117]⟩, .string ⟨#[52, 49, 57]⟩, .string ⟨#[48, 48, 49]⟩, .string ⟨#[117, 107, 115, 121, 115, 116, 101, 109]⟩, .string ⟨#[107, 101, 108, 118, 105, 110]⟩])).run Tryd.prog W = .ok (.bool true) W := fun W => by rw [xleq W]; rw [show ((decide _)) = true by simp only [Lib.toList_data]; decide +kernel]
  have q0 : ∀ W : World, (binOp .neq 25 (.agg #[.string ⟨#[]⟩, .string ⟨#[]⟩, .string ⟨#[]⟩, .string ⟨#[]⟩, .string ⟨#[]⟩]) (.agg #[.string ⟨#[]⟩, .string ⟨#[]⟩, .string ⟨#[]⟩, .string ⟨#[]⟩, .string ⟨#[]⟩])).run Tryd.prog W = .ok (.bool false) W := fun W => by rw [xlne W]; rw [show (!(decide _)) = false by simp only [Lib.toList_data]; decide +kernel]
  clear hm
  have HB := Bel.refl w
  go_enter Tryd.func3, Tryd.ntmps3
  go_upto_region 4 with (first
    | (go_at_call 6; (with_reducible refine (CA.out _ HB).mono ?_); rintro e w1 ⟨rfl, hb⟩; (replace HB := HB.up hb.hid); clear hb)
    | fail)
  refine xwp_named ?_
  intro W2 hW2
  have HL : Hid (At W2 w1.heap.size (knownT.map fun t => Value.string (bsL t))) := by rw [hW2]; exact at_new0 _ _ _
  have HB2 : Hid (Bel w W2) := by rw [hW2]; exact HB.al _
  obtain ⟨b, hb6⟩ : ∃ p, p = w1.heap.size := ⟨_, rfl⟩
  rw [← hb6] at HL ⊢
  clear hW2 hb6 HB
  go_upto_region 5 with fail
  go_loopw [2] (fun iv wr => ∃ k : Nat, k ≤ 17 ∧ iv = .int .i64 (k : Int) ∧ Hid (Bel w wr) ∧ Hid (At wr b (knownT.map fun t => Value.string (bsL t)))) (fun iv _ => 17 - (intOf iv).toNat)
  case atStart => exact ⟨0, by decide, rfl, HB2, HL⟩
  case round =>
    obtain ⟨k, hk, rfl, HB, HL⟩ := hrel
    by_cases hlt : k < 17
    · obtain ⟨t, ht1, ht2, ht3⟩ := knownT_at hlt
      have hc : wr.cell? ⟨b, k, none⟩ = some (.string (bsL t)) := HL.out.ci (by rw [List.getElem?_map, ht1]; rfl)
      have CK : Hid (∀ W, Bel w W → Calls Tryd.prog 7 #[.string (bsL t)] W fun e w' => e = .returned (.tuple #[.agg #[.string ⟨#[]⟩, .string ⟨#[]⟩, .string ⟨#[]⟩, .string ⟨#[]⟩, .string ⟨#[]⟩], .int .i64 2]) ∧ Bel W w') := fun W hw => CN.out t W ht2 ht3 hw
      obtain ⟨S, hS⟩ : ∃ S, bsL t = S := ⟨_, rfl⟩
      rw [hS] at hc CK
      clear ht1 ht2 ht3 hS hk
      replace HB : Bel w wr := HB.out
      replace HL : At wr b (knownT.map fun t => Value.string (bsL t)) := HL.out
      go_wp2_with (first
        | (go_at_call 7; (with_reducible refine (CK.out _ HB).mono ?_); rintro e w2 ⟨rfl, hb⟩; (replace HB := HB.up hb.hid); (replace HL := HL.up hb.hid); clear hb)
        | fail)
      go_round
      case rel => exact ⟨k + 1, by omega, by go_num, HB.al _, HL.al _⟩
      case measure => simp [intOf]; omega
    · obtain rfl : k = 17 := by omega
      clear hk hlt HL
      replace HB : Bel w wr := HB.out
      go_upto_region 11 with (first
        | (go_at_call 7; (with_reducible refine (C1.out _ HB).mono ?_); rintro e w2 ⟨rfl, hb⟩; (replace HB := HB.up hb.hid); clear hb)
        | fail)
      refine xwp_named ?_
      intro W6 hW6
      have HA6 : At W6 w2.heap.size [.string ⟨#[100, 101, 117]⟩, .string ⟨#[52, 49, 57]⟩, .string ⟨#[48, 48, 49]⟩, .string ⟨#[117, 107, 115, 121, 115, 116, 101, 109]⟩, .string ⟨#[107, 101, 108, 118, 105, 110]⟩] := by rw [hW6]; exact at_new0 _ _ _
      replace HB : Bel w W6 := by rw [hW6]; exact HB.al _
      obtain ⟨p, hp6⟩ : ∃ p, p = w2.heap.size := ⟨_, rfl⟩
      rw [← hp6] at HA6 ⊢
      clear hW6 hp6
      go_upto_region 12 with (first
        | (go_at_call 7; (with_reducible refine (C2.out _ HB).mono ?_); rintro e w4 ⟨rfl, hb⟩; (replace HB := HB.up hb.hid); (replace HA6 := HA6.up hb.hid); clear hb)
        | fail)
      refine xwp_named ?_
      intro W7 hW7
      have HC7 : At W7 w4.heap.size [.string ⟨#[101, 110]⟩, .string ⟨#[]⟩, .string ⟨#[]⟩, .string ⟨#[]⟩, .string ⟨#[]⟩] := by rw [hW7]; exact at_new0 _ _ _
      replace HB : Bel w W7 := by rw [hW7]; exact HB.al _
      replace HA6 : At W7 p [.string ⟨#[100, 101, 117]⟩, .string ⟨#[52, 49, 57]⟩, .string ⟨#[48, 48, 49]⟩, .string ⟨#[117, 107, 115, 121, 115, 116, 101, 109]⟩, .string ⟨#[107, 101, 108, 118, 105, 110]⟩] := by rw [hW7]; exact HA6.al _
      obtain ⟨q, hq6⟩ : ∃ p, p = w4.heap.size := ⟨_, rfl⟩
      rw [← hq6] at HC7 ⊢
      clear hW7 hq6
      have a_0 := HA6.c0; have a_1 := HA6.c1; have a_2 := HA6.c2; have a_3 := xc3 HA6; have a_4 := xc4 HA6; have a_l := HA6.lt; have b_0 := HC7.c0; have b_1 := HC7.c1; have b_2 := HC7.c2; have b_3 := xc3 HC7; have b_4 := xc4 HC7; have b_l := HC7.lt
      go_wp2_with (first
        | (go_at_call 8; (first | (with_reducible refine (CS.out _ HB).mono ?_) | (with_reducible refine (CT.out _ HB).mono ?_)); rintro e w5 ⟨rfl, hb⟩; (replace HB := HB.up hb.hid); (replace HA6 := HA6.up hb.hid); (replace HC7 := HC7.up hb.hid); clear hb a_0 a_1 a_2 a_3 a_4 a_l b_0 b_1 b_2 b_3 b_4 b_l; have a_0 := HA6.c0; have a_1 := HA6.c1; have a_2 := HA6.c2; have a_3 := xc3 HA6; have a_4 := xc4 HA6; have a_l := HA6.lt; have b_0 := HC7.c0; have b_1 := HC7.c1; have b_2 := HC7.c2; have b_3 := xc3 HC7; have b_4 := xc4 HC7; have b_l := HC7.lt)
        | (go_at_call 9; (first | (with_reducible refine (L0.out _).mono ?_) | (with_reducible refine (L1.out _).mono ?_) | (with_reducible refine (L2.out _).mono ?_) | (with_reducible refine (L3.out _).mono ?_)); rintro e w5 ⟨rfl, hb⟩; (replace HB := HB.up hb.hid); (replace HA6 := HA6.up hb.hid); (replace HC7 := HC7.up hb.hid); clear hb a_0 a_1 a_2 a_3 a_4 a_l b_0 b_1 b_2 b_3 b_4 b_l; have a_0 := HA6.c0; have a_1 := HA6.c1; have a_2 := HA6.c2; have a_3 := xc3 HA6; have a_4 := xc4 HA6; have a_l := HA6.lt; have b_0 := HC7.c0; have b_1 := HC7.c1; have b_2 := HC7.c2; have b_3 := xc3 HC7; have b_4 := xc4 HC7; have b_l := HC7.lt)
        | (go_at_call 10; (with_reducible refine (CG.out _ HB).mono ?_); rintro e w5 ⟨rfl, hb⟩; (replace HB := HB.up hb.hid); (replace HA6 := HA6.up hb.hid); (replace HC7 := HC7.up hb.hid); clear hb a_0 a_1 a_2 a_3 a_4 a_l b_0 b_1 b_2 b_3 b_4 b_l; have a_0 := HA6.c0; have a_1 := HA6.c1; have a_2 := HA6.c2; have a_3 := xc3 HA6; have a_4 := xc4 HA6; have a_l := HA6.lt; have b_0 := HC7.c0; have b_1 := HC7.c1; have b_2 := HC7.c2; have b_3 := xc3 HC7; have b_4 := xc4 HC7; have b_l := HC7.lt)
        | fail)
      go_ret
      exact ⟨rfl, HB⟩
end Go.Proofs.YtogekaakpfdhdaaDoor.X
