/- cmp.Compare of strings, cmp.Or of three; package atom: Less. No conditions. -/
import Derived.Test.YtkjcnpckajpogaaDoorKa
import Derived.Test.YtkjcnpckajpogaaDoorYd
import Derived.Test.YtkjcnpckajpogaaDoorAt
import Derived.Test.YtkjcnpckajpogaaDoorShf
import Derived.Deep.RegionHeld3
import Derived.Deep.CutRange
open Go.RowKit
set_option maxRecDepth 100000
namespace Go.Proofs.YtkjcnpckajpogaaDoor
theorem kwp_named {P : Program} {c : Code} {Q : Exit → Act → World → Prop} {a : Act} {X : World} (h : ∀ W', W' = X → Code.wp P c Q a W') : Code.wp P c Q a X := h X rfl
theorem nanS_any (s : ByteArray) (w : World) : Calls Tryd.prog 37 #[.string s] w fun e w' => e = .returned (.bool false) ∧ w = w' := by
  go_enter Tryd.func37, Tryd.ntmps37
  go_wp2
  go_ret
  exact ⟨by simp, rfl⟩
theorem binOp_string_gtr (t : TypeId) (a b : ByteArray) : binOp .gtr t (.string a) (.string b) = pure (.bool (!(Op.bytesLess a.toList b.toList || (a.toList == b.toList)))) := by simp [binOp, Op.stringOp]
attribute [local go_sem] binOp_string_gtr
/-- The order of two strings, by bytes. -/
def ltS (a b : ByteArray) : Bool := Op.bytesLess a.toList b.toList
def cmpS (a b : ByteArray) : Int := if ltS a b then -1 else if a.toList == b.toList then 0 else 1
theorem cmpS_any (a b : ByteArray) (w : World) : Calls Tryd.prog 25 #[.string a, .string b] w fun e w' => e = .returned (.int .i64 (cmpS a b)) ∧ w = w' := by
  have CN := yhide nanS_any
  obtain ⟨x, hx⟩ : ∃ x, Op.bytesLess a.toList b.toList = x := ⟨_, rfl⟩
  obtain ⟨y, hy⟩ : ∃ y, (a.toList == b.toList) = y := ⟨_, rfl⟩
  have HV : Hid (cmpS a b = if x then -1 else if y then 0 else 1) := by unfold Hid cmpS ltS; rw [hx, hy]
  cases x <;> cases y
  all_goals
    go_enter Tryd.func25, Tryd.ntmps25
    go_wp2_with (first | (go_at_call 37; (with_reducible refine (CN.out _ _).mono ?_); rintro e w1 ⟨rfl, rfl⟩) | fail)
    go_ret
    exact ⟨by rw [HV.out]; rfl, rfl⟩
def or3 (x y z : Int) : Int := if x ≠ 0 then x else if y ≠ 0 then y else z
set_option maxHeartbeats 2000000 in
theorem or3_any {p : Nat} {x y z : Int} {w : World} (h : At w p [.int .i64 x, .int .i64 y, .int .i64 z]) : Calls Tryd.prog 24 #[.slice (some ⟨p, 0, none⟩) 3 3] w fun e w' => e = .returned (.int .i64 (or3 x y z)) ∧ w = w' := by
  have c0 := h.c0; have c1 := h.c1; have c2 := h.c2
  clear h
  obtain ⟨bx, hbx⟩ : ∃ b, (x == 0) = b := ⟨_, rfl⟩
  obtain ⟨byy, hby⟩ : ∃ b, (y == 0) = b := ⟨_, rfl⟩
  obtain ⟨bz, hbz⟩ : ∃ b, (z == 0) = b := ⟨_, rfl⟩
  have HV : Hid (or3 x y z = if bx then (if byy then z else y) else x) := by
    unfold Hid or3; rw [← hbx, ← hby]
    by_cases h1 : x = 0 <;> by_cases h2 : y = 0 <;> simp [h1, h2]
  have HZ : Hid (bz = true → z = 0) := fun h => by rw [h] at hbz; simpa using hbz
  go_enter Tryd.func24, Tryd.ntmps24
  go_wp2
  go_loop [8] (fun iv => iv = .int .i64 0 ∨ (iv = .int .i64 1 ∧ Hid (bx = true)) ∨ (iv = .int .i64 2 ∧ Hid (bx = true ∧ byy = true)) ∨ (iv = .int .i64 3 ∧ Hid (bx = true ∧ byy = true ∧ bz = true))) (fun iv => 3 - (intOf iv).toNat)
  case atStart => exact .inl rfl
  case round =>
    rcases hrel with rfl | ⟨rfl, h0⟩ | ⟨rfl, h0⟩ | ⟨rfl, h0⟩
    · cases bx
      · go_wp2
        go_ret
        exact ⟨by rw [HV.out]; rfl, rfl⟩
      · go_wp2
        go_round
        case rel => exact .inr (.inl ⟨rfl, by simp [Hid]⟩)
        case measure => simp [intOf]
    · obtain rfl : bx = true := h0.out
      cases byy
      · go_wp2
        go_ret
        exact ⟨by rw [HV.out]; rfl, rfl⟩
      · go_wp2
        go_round
        case rel => exact .inr (.inr (.inl ⟨rfl, by simp [Hid]⟩))
        case measure => simp [intOf]
    · obtain ⟨rfl, rfl⟩ : bx = true ∧ byy = true := h0.out
      cases bz
      · go_wp2
        go_ret
        exact ⟨by rw [HV.out]; rfl, rfl⟩
      · go_wp2
        go_round
        case rel => exact .inr (.inr (.inr ⟨rfl, by simp [Hid]⟩))
        case measure => simp [intOf]
    · obtain ⟨rfl, rfl, rfl⟩ : bx = true ∧ byy = true ∧ bz = true := h0.out
      go_wp2
      go_ret
      exact ⟨by rw [HV.out, HZ.out (by trivial)]; rfl, rfl⟩
def lessB (p n : ByteArray) (k : Int) (p' n' : ByteArray) (k' : Int) : Bool := decide (or3 (cmpS n n') (cmpS p p') (Lib.compareInt k k') < 0)
set_option maxHeartbeats 4000000 in
theorem less_any (p n : ByteArray) (k : Int) (p' n' : ByteArray) (k' : Int) (w : World) : Calls Tryd.prog 12 #[.agg #[.string p, .string n, .int .i64 k], .agg #[.string p', .string n', .int .i64 k']] w (RetB w (lessB p n k p' n' k')) := by
  have CS := yhide cmpS_any
  have CI : Hid (∀ (x y : Int) (W : World), Calls Tryd.prog 26 #[.int .i64 x, .int .i64 y] W fun e w' => e = .returned (.int .i64 (Lib.compareInt x y)) ∧ W = w') := fun x y W => (Tryd.cmp_Compare_int x y W).mono fun e w' ⟨h1, h2⟩ => ⟨h1, h2.symm⟩
  obtain ⟨x, hx⟩ : ∃ x, cmpS n n' = x := ⟨_, rfl⟩
  obtain ⟨y, hy⟩ : ∃ x, cmpS p p' = x := ⟨_, rfl⟩
  obtain ⟨z, hz⟩ : ∃ x, Lib.compareInt k k' = x := ⟨_, rfl⟩
  obtain ⟨v, hv⟩ : ∃ v, or3 x y z = v := ⟨_, rfl⟩
  have HV : Hid (lessB p n k p' n' k' = decide (v < 0)) := by unfold Hid lessB; rw [hx, hy, hz, hv]
  have CO : Hid (∀ {q : Nat} {W : World}, At W q [.int .i64 x, .int .i64 y, .int .i64 z] → Calls Tryd.prog 24 #[.slice (some ⟨q, 0, none⟩) 3 3] W fun e w' => e = .returned (.int .i64 v) ∧ W = w') := fun h => hv ▸ or3_any h
  have C1 : Hid (∀ W : World, Calls Tryd.prog 25 #[.string n, .string n'] W fun e w' => e = .returned (.int .i64 x) ∧ W = w') := fun W => hx ▸ CS.out _ _ _
  have C2 : Hid (∀ W : World, Calls Tryd.prog 25 #[.string p, .string p'] W fun e w' => e = .returned (.int .i64 y) ∧ W = w') := fun W => hy ▸ CS.out _ _ _
  have C3 : Hid (∀ W : World, Calls Tryd.prog 26 #[.int .i64 k, .int .i64 k'] W fun e w' => e = .returned (.int .i64 z) ∧ W = w') := fun W => hz ▸ CI.out _ _ _
  clear hx hy hz hv CS CI
  go_enter Tryd.func12, Tryd.ntmps12
  go_upto_region 1 with fail
  refine kwp_named ?_
  intro W2 hW2
  have HA : At W2 w.heap.size [.string p, .string n, .int .i64 k] := by rw [hW2]; exact (at_new0 _ _ _).al _
  have HC : At W2 (w.heap.size + 1) [.string p', .string n', .int .i64 k'] := by rw [hW2]; exact at_new1 _ _ _ _
  have HB : Bel w W2 := by rw [hW2]; exact ((Bel.refl w).al _).al _
  obtain ⟨q2, hq2⟩ : ∃ q, q = w.heap.size + 1 := ⟨_, rfl⟩
  obtain ⟨q1, hq1⟩ : ∃ q, q = w.heap.size := ⟨_, rfl⟩
  rw [← hq2] at HC
  rw [← hq1] at HA
  rw [← hq2, ← hq1]
  clear hW2 hq1 hq2
  go_region_held3 (fun w' => w'.cell? ⟨q1, 0, none⟩ = some (.string p) ∧ w'.cell? ⟨q1, 1, none⟩ = some (.string n) ∧ w'.cell? ⟨q1, 2, none⟩ = some (.int .i64 k) ∧ w'.cell? ⟨q2, 0, none⟩ = some (.string p') ∧ w'.cell? ⟨q2, 1, none⟩ = some (.string n') ∧ w'.cell? ⟨q2, 2, none⟩ = some (.int .i64 k'))
    (first | (with_reducible exact ⟨HA.dr.c0, HA.dr.c1, HA.dr.c2, HC.dr.c0, HC.dr.c1, HC.dr.c2⟩) | (with_reducible exact ⟨(HA.dr.al _).c0, (HA.dr.al _).c1, (HA.dr.al _).c2, (HC.dr.al _).c0, (HC.dr.al _).c1, (HC.dr.al _).c2⟩) | (with_reducible exact ⟨(HA.al _).dr.c0, (HA.al _).dr.c1, (HA.al _).dr.c2, (HC.al _).dr.c0, (HC.al _).dr.c1, (HC.al _).dr.c2⟩) | fail)
    (first | (go_at_call 25; (with_reducible refine (C1.out _).mono ?_); rintro e w1 ⟨rfl, rfl⟩) | (go_at_call 25; (with_reducible refine (C2.out _).mono ?_); rintro e w1 ⟨rfl, rfl⟩) | (go_at_call 26; (with_reducible refine (C3.out _).mono ?_); rintro e w1 ⟨rfl, rfl⟩) | (go_at_call 24; (with_reducible refine (CO.out (at_new0 _ [.int .i64 x, .int .i64 y, .int .i64 z] _)).mono ?_); rintro e w1 ⟨rfl, rfl⟩) | (go_at_call 24; (with_reducible refine (CO.out (at_new0 W2 [.int .i64 x, .int .i64 y, .int .i64 z] 3).dr).mono ?_); rintro e w1 ⟨rfl, rfl⟩) | fail)
  all_goals go_wp2_with fail
  all_goals go_ret
  all_goals exact ⟨ybool (HV.out.symm), (by first | exact (HB.al _).dr | exact HB.dr.al _)⟩
end Go.Proofs.YtkjcnpckajpogaaDoor
