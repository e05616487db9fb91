/- LocaleBack: what is read is shown so that it is read again. No conditions. -/
import Derived.Test.YtogekaakpfdhdaaDoorXl
open Go.RowKit
set_option maxRecDepth 100000
namespace Go.Proofs.YtogekaakpfdhdaaDoor.X
theorem sl_of {s : LB} {y : LL} (h : parseL s = some y) : SL y := by
  obtain ⟨h1, h2, h3, h4, h5, h6⟩ := parse_small h
  exact ⟨by omega, by omega, by omega, by omega, by omega, h6⟩
set_option maxHeartbeats 8000000 in
theorem back_walk {w : World} (hm : Mx w) {s : ByteArray} (hsz : s.size ≤ maxLen) : Calls Tryd.prog 4 #[.string s] w (RetB w true) := by
  have CA : Hid (∀ W, Bel w W → Calls Tryd.prog 6 #[] W (RetB W true)) := fun W hw => awake14_h (hm.bel hw)
  have HB := Bel.refl w
  by_cases h0 : 200 < s.size
  · have d0 : decide ((200 : Int) < (s.size : Int)) = true := decide_eq_true (by omega)
    clear h0 hsz
    go_enter Tryd.func4, Tryd.ntmps4
    go_wp2_with (first | (go_at_call 6; (with_reducible refine (CA.out _ HB).mono ?_); rintro e w1 ⟨rfl, hb⟩; (replace HB := HB.up hb.hid); clear hb) | fail)
    go_ret
    exact ⟨rfl, HB⟩
  · have d0 : decide ((200 : Int) < (s.size : Int)) = false := decide_eq_false (by omega)
    obtain ⟨l, hl⟩ : ∃ l, l = s.data.toList := ⟨_, rfl⟩
    have hb0 : bsL l = s := by rw [hl]; rfl
    have hlen : l.length ≤ 200 := by have := bsL_size l; rw [hb0] at this; omega
    clear h0 hsz
    cases hp : parseL l with
    | none =>
      have CP : Hid (∀ W, Bel w W → Calls Tryd.prog 7 #[.string s] W fun e w' => e = .returned (.tuple #[.agg #[.string ⟨#[]⟩, .string ⟨#[]⟩, .string ⟨#[]⟩, .string ⟨#[]⟩, .string ⟨#[]⟩], .int .i64 2]) ∧ Bel W w') := fun W hw => by
        rw [← hb0]
        have := parse_h (s := l) (hm.bel hw) (by omega)
        rw [hp] at this; exact this
      clear hp hl hb0 hlen
      go_enter Tryd.func4, Tryd.ntmps4
      go_wp2_with (first
        | (go_at_call 6; (with_reducible refine (CA.out _ HB).mono ?_); rintro e w1 ⟨rfl, hb⟩; (replace HB := HB.up hb.hid); clear hb)
        | (go_at_call 7; (with_reducible refine (CP.out _ HB).mono ?_); rintro e w1 ⟨rfl, hb⟩; (replace HB := HB.up hb.hid); clear hb)
        | fail)
      go_ret
      exact ⟨rfl, HB.al _⟩
    | some y =>
      obtain ⟨k1, k2, k3, k4⟩ := parse_back hp
      have hsl := sl_of hp
      obtain ⟨L, R, G, M, U, e0, e1, e2, e3, e4⟩ := parts_of2 y
      have HY : locV y = .agg #[.string L, .string R, .string G, .string M, .string U] := by unfold locV; rw [e0, e1, e2, e3, e4]
      obtain ⟨T, hT⟩ : ∃ T, bsL (writeL y) = T := ⟨_, rfl⟩
      have CP : Hid (∀ W, Bel w W → Calls Tryd.prog 7 #[.string s] W fun e w' => e = .returned (.tuple #[.agg #[.string L, .string R, .string G, .string M, .string U], .int .i64 0]) ∧ Bel W w') := fun W hw => by
        rw [← hb0, ← HY]
        have := parse_h (s := l) (hm.bel hw) (by omega)
        rw [hp] at this; exact this
      have CQ : Hid (∀ W, Bel w W → Calls Tryd.prog 7 #[.string T] W fun e w' => e = .returned (.tuple #[.agg #[.string L, .string R, .string G, .string M, .string U], .int .i64 0]) ∧ Bel W w') := fun W hw => by
        rw [← hT, ← HY]
        have := parse_h (s := writeL y) (hm.bel hw) (by omega)
        rw [k1] at this; exact this
      have CS : Hid (∀ W, Bel w W → Calls Tryd.prog 8 #[.agg #[.string L, .string R, .string G, .string M, .string U]] W (StrX W T)) := fun W hw => by
        rw [← hT, ← HY, ← k4]
        exact show_h (hm.bel hw) hsl (by omega)
      have CG : Hid (∀ W, Bel w W → Calls Tryd.prog 10 #[.agg #[.string L, .string R, .string G, .string M, .string U]] W (RetB W true)) := fun W hw => by
        rw [← HY]
        exact good_is (hm.bel hw) hsl (by omega) k3
      have q1 : ∀ W : World, (binOp .eql 25 (.agg #[.string L, .string R, .string G, .string M, .string U]) (.agg #[.string L, .string R, .string G, .string M, .string U])).run Tryd.prog W = .ok (.bool true) W := fun W => by
        rw [← HY, xloc_eq, eqX_self]
      have d5 : ((T.size : Int) == (s.size : Int)) = true := by
        rw [← hT, ← hb0, bsL_size, bsL_size, k2]; simp
      clear hp hl hb0 hlen k1 k2 k3 k4 hsl HY hT e0 e1 e2 e3 e4
      go_enter Tryd.func4, Tryd.ntmps4
      go_upto_region 6 with (first
        | (go_at_call 6; (with_reducible refine (CA.out _ HB).mono ?_); rintro e w1 ⟨rfl, hb⟩; (replace HB := HB.up hb.hid); clear hb)
        | (go_at_call 7; (with_reducible refine (CP.out _ HB).mono ?_); rintro e w2 ⟨rfl, hb⟩; (replace HB := HB.up hb.hid); clear hb)
        | fail)
      refine xwp_named ?_
      intro W6 hW6
      have HA6 : At W6 w2.heap.size [.string L, .string R, .string G, .string M, .string U] := by rw [hW6]; exact at_new0 _ _ _
      replace HB : Bel w W6 := by rw [hW6]; exact HB.al _
      obtain ⟨p, hp6⟩ : ∃ p, p = w2.heap.size := ⟨_, rfl⟩
      rw [← hp6] at HA6 ⊢
      clear hW6 hp6
      have a_0 := HA6.c0; have a_1 := HA6.c1; have a_2 := HA6.c2; have a_3 := xc3 HA6; have a_4 := xc4 HA6; have a_l := HA6.lt
      go_upto_region 9 with (first
        | (go_at_call 8; (with_reducible refine (CS.out _ HB).mono ?_); rintro e w3 ⟨rfl, hb⟩; (replace HB := HB.up hb.hid); (replace HA6 := HA6.up hb.hid); clear hb)
        | (go_at_call 7; (with_reducible refine (CQ.out _ HB).mono ?_); rintro e w4 ⟨rfl, hb⟩; (replace HB := HB.up hb.hid); (replace HA6 := HA6.up hb.hid); clear hb)
        | fail)
      clear a_0 a_1 a_2 a_3 a_4 a_l
      refine xwp_named ?_
      intro W7 hW7
      have HC7 : At W7 w4.heap.size [.string L, .string R, .string G, .string M, .string U] := by rw [hW7]; exact at_new0 _ _ _
      replace HB : Bel w W7 := by rw [hW7]; exact HB.al _
      replace HA6 : At W7 p [.string L, .string R, .string G, .string M, .string U] := by rw [hW7]; exact HA6.al _
      obtain ⟨q, hq6⟩ : ∃ p, p = w4.heap.size := ⟨_, rfl⟩
      rw [← hq6] at HC7 ⊢
      clear hW7 hq6
      have a_0 := HA6.c0; have a_1 := HA6.c1; have a_2 := HA6.c2; have a_3 := xc3 HA6; have a_4 := xc4 HA6; have a_l := HA6.lt
      have b_0 := HC7.c0; have b_1 := HC7.c1; have b_2 := HC7.c2; have b_3 := xc3 HC7; have b_4 := xc4 HC7; have b_l := HC7.lt
      go_wp2_with (first
        | (go_at_call 10; (with_reducible refine (CG.out _ HB).mono ?_); rintro e w5 ⟨rfl, hb⟩; (replace HB := HB.up hb.hid); (replace HA6 := HA6.up hb.hid); clear hb a_0 a_1 a_2 a_3 a_4 a_l; have a_0 := HA6.c0; have a_1 := HA6.c1; have a_2 := HA6.c2; have a_3 := xc3 HA6; have a_4 := xc4 HA6; have a_l := HA6.lt)
        | (go_at_call 8; (with_reducible refine (CS.out _ HB).mono ?_); rintro e w6 ⟨rfl, hb⟩; (replace HB := HB.up hb.hid); clear hb)
        | fail)
      go_ret
      exact ⟨rfl, HB⟩
end Go.Proofs.YtogekaakpfdhdaaDoor.X
