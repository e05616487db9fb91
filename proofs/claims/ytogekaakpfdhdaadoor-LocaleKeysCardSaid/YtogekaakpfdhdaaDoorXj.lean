/- Package locale: '==' on locales, tells, Good, Show, Place. Conditions: texts that fit. -/
import Derived.Test.YtogekaakpfdhdaaDoorXi
import Derived.Laws.StructEq
import Derived.Deep.RegionHeld3
open Go.RowKit
set_option maxRecDepth 100000
namespace Go.Proofs.YtogekaakpfdhdaaDoor.X
def eqX (x y : LL) : Bool := decide (x.lang = y.lang ∧ x.reg = y.reg ∧ x.rg = y.rg ∧ x.ms = y.ms ∧ x.mu = y.mu)
theorem xleq_in (w : World) (a b c d e a' b' c' d' e' : ByteArray) : (Op.equalIn 10000 25 (.agg #[.string a, .string b, .string c, .string d, .string e]) (.agg #[.string a', .string b', .string c', .string d', .string e'])).run Tryd.prog w = .ok (decide (a.toList = a'.toList ∧ b.toList = b'.toList ∧ c.toList = c'.toList ∧ d.toList = d'.toList ∧ e.toList = e'.toList)) w := by
  rw [run_equalIn_agg w 9999 _ _ _ (by kernel_rfl) (by kernel_rfl)]
  have hf : (Tryd.prog.fieldsOf 25).toList.map (fun f => (f.name, f.type, f.offset)) = [("Lang", 9, 0), ("Region", 9, 1), ("RG", 9, 2), ("MS", 9, 3), ("MU", 9, 4)] := by kernel_rfl
  obtain ⟨fs, hfs⟩ : ∃ fs, (Tryd.prog.fieldsOf 25).toList = fs := ⟨_, rfl⟩
  rw [hfs] at hf ⊢
  match fs, hf with
  | [f0, f1, f2, f3, f4], hf =>
    simp at hf
    obtain ⟨⟨a0, b0, c0⟩, ⟨a1, b1, c1⟩, ⟨a2, b2, c2⟩, ⟨a3, b3, c3⟩, a4, b4, c4⟩ := hf
    simp [Op.eqFields, a0, a1, a2, a3, a4, b0, b1, b2, b3, b4, c0, c1, c2, c3, c4, part, isAgg, run_underlying Tryd.underlying9, run_equalIn_string _ _ _ _ _ Tryd.underlying9, Result.andThen]
    by_cases h1 : a.toList = a'.toList <;> by_cases h2 : b.toList = b'.toList <;> by_cases h3 : c.toList = c'.toList <;> by_cases h4 : d.toList = d'.toList <;> by_cases h5 : e.toList = e'.toList <;> simp [h1, h2, h3, h4, h5]
theorem xleq (w : World) (a b c d e a' b' c' d' e' : ByteArray) : (binOp .eql 25 (.agg #[.string a, .string b, .string c, .string d, .string e]) (.agg #[.string a', .string b', .string c', .string d', .string e'])).run Tryd.prog w = .ok (.bool (decide (a.toList = a'.toList ∧ b.toList = b'.toList ∧ c.toList = c'.toList ∧ d.toList = d'.toList ∧ e.toList = e'.toList))) w := by
  rw [run_eql_struct, xleq_in]; rfl
theorem xlne (w : World) (a b c d e a' b' c' d' e' : ByteArray) : (binOp .neq 25 (.agg #[.string a, .string b, .string c, .string d, .string e]) (.agg #[.string a', .string b', .string c', .string d', .string e'])).run Tryd.prog w = .ok (.bool (!(decide (a.toList = a'.toList ∧ b.toList = b'.toList ∧ c.toList = c'.toList ∧ d.toList = d'.toList ∧ e.toList = e'.toList)))) w := by
  rw [run_neq_struct, xleq_in]; rfl
theorem xloc_eq (x y : LL) (w : World) : (binOp .eql 25 (locV x) (locV y)).run Tryd.prog w = .ok (.bool (eqX x y)) w := by
  unfold locV
  rw [xleq]
  simp only [xlist]
  rfl
theorem eqX_self (x : LL) : eqX x x = true := by unfold eqX; simp
theorem parts_of2 (x : LL) : ∃ a b c d e : ByteArray, a = bsL x.lang ∧ b = bsL x.reg ∧ c = bsL x.rg ∧ d = bsL x.ms ∧ e = bsL x.mu := ⟨_, _, _, _, _, rfl, rfl, rfl, rfl, rfl⟩
set_option maxHeartbeats 4000000 in
theorem tells_h {s : LB} {x : LL} {w : World} (hm : Mx w) (hs : s.length ≤ 900) : Calls Tryd.prog 16 #[.string (bsL s), locV x] w (RetB w (tellsB s x)) := by
  obtain ⟨r, hr⟩ : ∃ r, parseL s = r := ⟨_, rfl⟩
  have CP : Hid (∀ W, Bel w W → Calls Tryd.prog 7 #[.string (bsL s)] W (ParseX W r)) := fun W hw => hr ▸ parse_h (hm.bel hw) hs
  obtain ⟨Q, hQ⟩ : ∃ Q, RetB w (tellsB s x) = Q := ⟨_, rfl⟩
  have HN : Hid (r = none → ∀ w', Bel w w' → Q (.returned (.bool false)) w') := fun h w' hb => by
    rw [← hQ]; unfold tellsB; rw [hr, h]; exact ⟨rfl, hb⟩
  have HS : Hid (∀ y, r = some y → ∀ w', Bel w w' → Q (.returned (.bool (eqX y x))) w') := fun y h w' hb => by
    rw [← hQ]; unfold tellsB; rw [hr, h]; exact ⟨rfl, hb⟩
  have HEQ : Hid (∀ y W, (binOp .eql 25 (locV y) (locV x)).run Tryd.prog W = .ok (.bool (eqX y x)) W) := fun y W => xloc_eq y x W
  rw [hQ]
  obtain ⟨S, hS⟩ : ∃ S, bsL s = S := ⟨_, rfl⟩
  rw [hS] at CP ⊢
  clear hr hQ hS
  unfold locV at HEQ ⊢
  obtain ⟨L, R, G, M, U, e0, e1, e2, e3, e4⟩ := parts_of2 x
  rw [← e0, ← e1, ← e2, ← e3, ← e4] at HEQ ⊢
  clear e0 e1 e2 e3 e4
  obtain ⟨W1, hW1⟩ : ∃ X, X = w.alloc (.cells #[.string L, .string R, .string G, .string M, .string U] 25) := ⟨_, rfl⟩
  have HA : At W1 w.heap.size [.string L, .string R, .string G, .string M, .string U] := by rw [hW1]; exact at_new0 _ _ _
  have HB : Bel w W1 := by rw [hW1]; exact (Bel.refl w).al _
  have HW := xhide hW1
  clear hW1
  cases r with
  | none =>
    go_enter Tryd.func16, Tryd.ntmps16
    go_upto_region 1 with fail
    rw [← HW.out]
    have CP2 : Hid (∀ W, Bel w W → Calls Tryd.prog 7 #[.string S] W fun e w' => e = .returned (.tuple #[.agg #[.string ⟨#[]⟩, .string ⟨#[]⟩, .string ⟨#[]⟩, .string ⟨#[]⟩, .string ⟨#[]⟩], .int .i64 2]) ∧ Bel W w') := fun W hw => CP.out W hw
    go_wp2_with (first | (go_at_call 7; (with_reducible refine (CP2.out _ HB).mono ?_); rintro e w1 ⟨rfl, hb⟩; (replace HB := HB.up hb.hid); clear hb) | fail)
    exact HN.out (by trivial) _ (HB.al _)
  | some y =>
    have HEY := xhide (HEQ.out y)
    obtain ⟨L', R', G', M', U', e0, e1, e2, e3, e4⟩ := parts_of2 y
    have HY : Hid (locV y = .agg #[.string L', .string R', .string G', .string M', .string U']) := by unfold Hid locV; rw [e0, e1, e2, e3, e4]
    rw [← e0, ← e1, ← e2, ← e3, ← e4] at HEY
    have HSY := xhide (HS.out y rfl)
    obtain ⟨b, hb⟩ : ∃ b, eqX y x = b := ⟨_, rfl⟩
    rw [hb] at HEY HSY
    have CP2 : Hid (∀ W, Bel w W → Calls Tryd.prog 7 #[.string S] W fun e w' => e = .returned (.tuple #[.agg #[.string L', .string R', .string G', .string M', .string U'], .int .i64 0]) ∧ Bel W w') := fun W hw => by
      have := CP.out W hw
      unfold ParseX at this
      rwa [show (some y).getD noL = y from rfl, HY.out, show (if (some y).isSome = true then (0 : Int) else 2) = 0 from rfl] at this
    have hey := HEY.out
    clear e0 e1 e2 e3 e4 hb HEQ HEY CP HY
    go_enter Tryd.func16, Tryd.ntmps16
    go_upto_region 1 with fail
    rw [← HW.out]
    obtain ⟨q, hq⟩ : ∃ p, p = w.heap.size := ⟨_, rfl⟩
    rw [← hq] at HA ⊢
    clear HW hq
    go_upto_region 2 with (first | (go_at_call 7; (with_reducible refine (CP2.out _ HB).mono ?_); rintro e w1 ⟨rfl, hb⟩; (replace HB := HB.up hb.hid); (replace HA := HA.up hb.hid); clear hb) | fail)
    refine xwp_named ?_
    intro W6 hW6
    have HA6 : At W6 q [.string L, .string R, .string G, .string M, .string U] := by rw [hW6]; exact HA.al _
    have HB6 : Bel w W6 := by rw [hW6]; exact HB.al _
    obtain ⟨p, hp6⟩ : ∃ p, p = w1.heap.size := ⟨_, rfl⟩
    have HP6 : At W6 p [.string L', .string R', .string G', .string M', .string U'] := by rw [hW6, hp6]; exact at_new0 _ _ _
    rw [← hp6]
    clear hW6 hp6 HA HB
    have a_0 := HA6.c0; have a_1 := HA6.c1; have a_2 := HA6.c2; have a_3 := xc3 HA6; have a_4 := xc4 HA6; have a_l := HA6.lt
    have b_0 := HP6.c0; have b_1 := HP6.c1; have b_2 := HP6.c2; have b_3 := xc3 HP6; have b_4 := xc4 HP6; have b_l := HP6.lt
    go_wp2_with fail
    exact HSY.out _ HB6
theorem RetB.mk' {W w' : World} {a b : Bool} (h : a = b) (hb : Bel W w') : RetB W b (.returned (.bool a)) w' := by subst h; exact ⟨rfl, hb⟩
set_option maxHeartbeats 4000000 in
theorem good_h {x : LL} {w : World} (hm : Mx w) (hx : SL x) (hs : (writeL x).length ≤ 900) : Calls Tryd.prog 10 #[locV x] w (RetB w (goodLB x)) := by
  have CW : Hid (∀ W, Calls Tryd.prog 15 #[locV x] W (StrX W (bsL (writeL x)))) := fun W => write_h hx
  have CT : Hid (∀ W, Bel w W → Calls Tryd.prog 16 #[.string (bsL (writeL x)), locV x] W (RetB W (goodLB x))) := fun W hw => tells_h (hm.bel hw) hs
  obtain ⟨b, hb⟩ : ∃ b, goodLB x = b := ⟨_, rfl⟩
  obtain ⟨T, hT⟩ : ∃ b, bsL (writeL x) = b := ⟨_, rfl⟩
  rw [hb] at CT ⊢
  rw [hT] at CW CT
  clear hb hT hm hx hs
  unfold locV at CW CT ⊢
  obtain ⟨L, R, G, M, U, e0, e1, e2, e3, e4⟩ := parts_of2 x
  rw [← e0, ← e1, ← e2, ← e3, ← e4] at CW CT ⊢
  clear e0 e1 e2 e3 e4
  obtain ⟨W1, hW1⟩ : ∃ X, X = w.alloc (.cells #[.string L, .string R, .string G, .string M, .string U] 25) := ⟨_, rfl⟩
  have HA : At W1 w.heap.size [.string L, .string R, .string G, .string M, .string U] := by rw [hW1]; exact at_new0 _ _ _
  have HB0 : Bel w W1 := by rw [hW1]; exact (Bel.refl w).al _
  have HW := xhide hW1
  clear hW1
  go_enter Tryd.func10, Tryd.ntmps10
  go_upto_region 1 with fail
  rw [← HW.out]
  obtain ⟨q, hq⟩ : ∃ p, p = w.heap.size := ⟨_, rfl⟩
  rw [← hq] at HA ⊢
  clear HW hq
  have HS : Hid (∀ w', Bel W1 w' → w'.cell? ⟨q, 0, none⟩ = some (.string L) ∧ w'.cell? ⟨q, 1, none⟩ = some (.string R) ∧ w'.cell? ⟨q, 2, none⟩ = some (.string G) ∧ w'.cell? ⟨q, 3, none⟩ = some (.string M) ∧ w'.cell? ⟨q, 4, none⟩ = some (.string U)) := fun w' hb => by
    have h := HA.up hb.hid
    exact ⟨h.c0, h.c1, h.c2, xc3 h, xc4 h⟩
  have HBX := Bel.refl W1
  go_region_held3 (fun w' => w'.cell? ⟨q, 0, none⟩ = some (.string L) ∧ w'.cell? ⟨q, 1, none⟩ = some (.string R) ∧ w'.cell? ⟨q, 2, none⟩ = some (.string G) ∧ w'.cell? ⟨q, 3, none⟩ = some (.string M) ∧ w'.cell? ⟨q, 4, none⟩ = some (.string U))
    (first | exact HS.out _ HBX | exact HS.out _ HBX.dr)
    (first
      | (go_at_call 15; (with_reducible refine (CW.out _).mono ?_); rintro e w1 ⟨rfl, hb⟩; (replace HBX := HBX.dr.up hb.hid); clear hb)
      | (go_at_call 16; (with_reducible refine (CT.out _ (HB0.up HBX.hid)).mono ?_); rintro e w1 ⟨rfl, hb⟩; (replace HBX := HBX.up hb.hid); clear hb)
      | fail)
  all_goals go_wp2_with fail
  all_goals go_ret
  all_goals exact ⟨rfl, HB0.up HBX.hid⟩
end Go.Proofs.YtogekaakpfdhdaaDoor.X
