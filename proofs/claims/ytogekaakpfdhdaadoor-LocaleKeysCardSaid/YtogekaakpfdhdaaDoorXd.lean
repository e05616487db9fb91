/- Package locale: Cut, the kinds of letters, what a language, a region, a value may be. Conditions: texts that fit. -/
import Derived.Test.YtogekaakpfdhdaaDoorXa
import Derived.Test.YtogekaakpfdhdaaDoorShl
import Derived.Test.YtogekaakpfdhdaaDoorAt
import Derived.Test.YtogekaakpfdhdaaDoorProg
import Derived.WalkSpells
import Derived.Lib.Strings
open Go.RowKit
set_option maxRecDepth 100000
namespace Go.Proofs.YtogekaakpfdhdaaDoor.X
theorem xhide {p : Prop} (h : p) : Hid p := h
theorem xbool {a b : Bool} (h : a = b) : Ending.returned (.bool a) = .returned (.bool b) := by rw [h]
theorem xu8le (a b : UInt8) : (a ≤ b) ↔ a.toNat ≤ b.toNat := UInt8.le_iff_toNat_le
theorem xdn {w W : World} (h : Bel w W) (k : Nat) : Bel w (W.drewN k) := ⟨h.1, h.2, h.3, h.4, h.5⟩
/-- The library's longest short text is some number. -/
def Mx (W : World) : Prop := ∃ m, W.cell? ⟨0, 0, none⟩ = some (.int .i64 m)
theorem Mx.lt {W : World} (h : Mx W) : 0 < W.heap.size := by obtain ⟨m, h⟩ := h; exact World.block_lt_of_cell? W _ h
theorem Mx.up {W W' : World} (h : Mx W) (hb : Hid (Below W.heap.size W W')) : Mx W' := by
  have h0 := h.lt
  obtain ⟨m, h⟩ := h
  exact ⟨m, (hb.out.cell h0).trans h⟩
theorem Mx.bel {W W' : World} (h : Mx W) (hb : Bel W W') : Mx W' := h.up hb
def CutRx (W : World) (l sep : LB) (e : Ending) (w' : World) : Prop := e = .returned (.tuple #[.string (bsL (Lib.cut l sep).1), .string (bsL (Lib.cut l sep).2.1), .bool (Lib.cut l sep).2.2]) ∧ Bel W w'
theorem cut_h {l sep : LB} {W : World} (hm : Mx W) (hl : l.length ≤ 1000) : Calls Tryd.prog 11 #[.string (bsL l), .string (bsL sep)] W (CutRx W l sep) := by
  obtain ⟨m, hm⟩ := hm
  refine (Tryd.strings_Cut (bsL l) (bsL sep) m W (by rw [bsL_size]; omega) hm).mono ?_
  rintro e w' ⟨rfl, n, rfl⟩
  exact ⟨rfl, xdn (Bel.refl W) n⟩
theorem isLo_h (c : UInt8) (w : World) : Calls Tryd.prog 19 #[.int .u8 (c.toNat : Int)] w fun e w' => e = .returned (.bool (isLo c)) ∧ w = w' := by
  have e1 : decide ((97 : Int) ≤ (c.toNat : Int)) = decide (97 ≤ c) := by rw [Bool.eq_iff_iff]; simp only [decide_eq_true_eq, xu8le]; show (97 : Int) ≤ _ ↔ 97 ≤ c.toNat; omega
  have e2 : decide ((c.toNat : Int) ≤ 122) = decide (c ≤ 122) := by rw [Bool.eq_iff_iff]; simp only [decide_eq_true_eq, xu8le]; show _ ≤ (122 : Int) ↔ c.toNat ≤ 122; omega
  obtain ⟨a, ha⟩ : ∃ a, decide (97 ≤ c) = a := ⟨_, rfl⟩
  obtain ⟨b, hb⟩ : ∃ a, decide (c ≤ 122) = a := ⟨_, rfl⟩
  have HV : Hid (isLo c = (a && b)) := by unfold Hid isLo; rw [ha, hb]
  rw [ha] at e1; rw [hb] at e2
  clear ha hb
  cases a <;> cases b <;>
  · go_enter Tryd.func19, Tryd.ntmps19
    go_wp2
    go_ret
    exact ⟨xbool HV.out.symm, rfl⟩
theorem isUp_h (c : UInt8) (w : World) : Calls Tryd.prog 20 #[.int .u8 (c.toNat : Int)] w fun e w' => e = .returned (.bool (isUp c)) ∧ w = w' := by
  have e1 : decide ((65 : Int) ≤ (c.toNat : Int)) = decide (65 ≤ c) := by rw [Bool.eq_iff_iff]; simp only [decide_eq_true_eq, xu8le]; show (65 : Int) ≤ _ ↔ 65 ≤ c.toNat; omega
  have e2 : decide ((c.toNat : Int) ≤ 90) = decide (c ≤ 90) := by rw [Bool.eq_iff_iff]; simp only [decide_eq_true_eq, xu8le]; show _ ≤ (90 : Int) ↔ c.toNat ≤ 90; omega
  obtain ⟨a, ha⟩ : ∃ a, decide (65 ≤ c) = a := ⟨_, rfl⟩
  obtain ⟨b, hb⟩ : ∃ a, decide (c ≤ 90) = a := ⟨_, rfl⟩
  have HV : Hid (isUp c = (a && b)) := by unfold Hid isUp; rw [ha, hb]
  rw [ha] at e1; rw [hb] at e2
  clear ha hb
  cases a <;> cases b <;>
  · go_enter Tryd.func20, Tryd.ntmps20
    go_wp2
    go_ret
    exact ⟨xbool HV.out.symm, rfl⟩
theorem isDg_h (c : UInt8) (w : World) : Calls Tryd.prog 21 #[.int .u8 (c.toNat : Int)] w fun e w' => e = .returned (.bool (isDg c)) ∧ w = w' := by
  have e1 : decide ((48 : Int) ≤ (c.toNat : Int)) = decide (48 ≤ c) := by rw [Bool.eq_iff_iff]; simp only [decide_eq_true_eq, xu8le]; show (48 : Int) ≤ _ ↔ 48 ≤ c.toNat; omega
  have e2 : decide ((c.toNat : Int) ≤ 57) = decide (c ≤ 57) := by rw [Bool.eq_iff_iff]; simp only [decide_eq_true_eq, xu8le]; show _ ≤ (57 : Int) ↔ c.toNat ≤ 57; omega
  obtain ⟨a, ha⟩ : ∃ a, decide (48 ≤ c) = a := ⟨_, rfl⟩
  obtain ⟨b, hb⟩ : ∃ a, decide (c ≤ 57) = a := ⟨_, rfl⟩
  have HV : Hid (isDg c = (a && b)) := by unfold Hid isDg; rw [ha, hb]
  rw [ha] at e1; rw [hb] at e2
  clear ha hb
  cases a <;> cases b <;>
  · go_enter Tryd.func21, Tryd.ntmps21
    go_wp2
    go_ret
    exact ⟨xbool HV.out.symm, rfl⟩
theorem xall_take {p : UInt8 → Bool} {s : ByteArray} {k : Nat} (h : k < s.size) : (s.data.toList.take (k + 1)).all p = ((s.data.toList.take k).all p && p s[k]) := by
  have e : s.data.toList.take (k + 1) = s.data.toList.take k ++ [s[k]] := by
    rw [List.take_succ_eq_append_getElem (by simpa using h)]; rfl
  rw [e, List.all_append]; simp
theorem xall_false {p : UInt8 → Bool} {s : ByteArray} {k : Nat} (h : k < s.size) (hp : p s[k] = false) : s.data.toList.all p = false := by
  rw [List.all_eq_false]
  refine ⟨s[k], ?_, by rw [hp]; simp⟩
  exact List.getElem_mem (l := s.data.toList) (n := k) (by simpa using h)
set_option maxHeartbeats 400000 in
theorem consN_h {p : UInt8 → Bool} {g : Nat} (hk : ∀ (c : UInt8) (W : World), Calls Tryd.prog g #[.int .u8 (c.toNat : Int)] W fun e w' => e = .returned (.bool (p c)) ∧ W = w')
    (hg : ∀ args W, (callFunc g args).run Tryd.prog W = .ok (.enter g args) W) (s : ByteArray) (n : Nat) (w : World) (hn : n ≤ 1000) :
    Calls Tryd.prog 18 #[.string s, .int .i64 (n : Int), .func (.func g) #[] #[]] w fun e w' => e = .returned (.bool (consN p n s.data.toList)) ∧ w = w' := by
  have CK := xhide hk
  clear hk
  by_cases h0 : s.size = n
  · subst h0
    have HL : Hid (decide (s.data.toList.length = s.size) = true) := by unfold Hid; rw [Lib.size_eq]; exact decide_eq_true rfl
    go_enter Tryd.func18, Tryd.ntmps18
    go_wp2
    go_loop [13] (fun iv => ∃ k : Nat, k ≤ s.size ∧ iv = .int .i64 (k : Int) ∧ Hid ((s.data.toList.take k).all p = true)) (fun iv => s.size - (intOf iv).toNat)
    case atStart => exact ⟨0, Nat.zero_le _, rfl, rfl⟩
    case round =>
      obtain ⟨k, hk, rfl, hall⟩ := hrel
      by_cases hlt : k < s.size
      · obtain ⟨b, hb⟩ : ∃ b, p s[k] = b := ⟨_, rfl⟩
        have HP := xhide hb
        clear hb
        have CC : Hid (∀ W : World, Calls Tryd.prog g #[.int .u8 (s[k].toNat : Int)] W fun e w' => e = .returned (.bool b) ∧ W = w') := fun W => by
          have := CK.out s[k] W
          rwa [HP.out] at this
        cases b
        · go_wp2_with (first | ((with_reducible refine (CC.out _).mono ?_); rintro e w1 ⟨rfl, rfl⟩) | fail)
          go_ret
          exact ⟨xbool (by unfold consN; rw [xall_false hlt HP.out]; simp), rfl⟩
        · go_wp2_with (first | ((with_reducible refine (CC.out _).mono ?_); rintro e w1 ⟨rfl, rfl⟩) | fail)
          go_round
          case rel => exact ⟨k + 1, by omega, by go_num, by unfold Hid; rw [xall_take hlt, hall.out, HP.out]; rfl⟩
          case measure => simp [intOf]; omega
      · obtain rfl : k = s.size := by omega
        go_wp2
        go_ret
        refine ⟨xbool ?_, rfl⟩
        have h3 := hall.out
        rw [List.take_of_length_le (by rw [Lib.size_eq]; exact Nat.le_refl _)] at h3
        unfold consN
        rw [h3, HL.out]; rfl
  · have d1 : ((s.size : Int) == (n : Int)) = false := by rw [beq_eq_false_iff_ne]; omega
    have HL : Hid (consN p n s.data.toList = false) := by
      unfold Hid consN
      rw [decide_eq_false (by rw [← Lib.size_eq]; exact h0)]; rfl
    clear h0
    go_enter Tryd.func18, Tryd.ntmps18
    go_wp2
    go_ret
    exact ⟨xbool HL.out.symm, rfl⟩
theorem enters_lo : ∀ args W, (callFunc 19 args).run Tryd.prog W = .ok (.enter 19 args) W := fun _ _ => by kernel_rfl
theorem enters_up : ∀ args W, (callFunc 20 args).run Tryd.prog W = .ok (.enter 20 args) W := fun _ _ => by kernel_rfl
theorem enters_dg : ∀ args W, (callFunc 21 args).run Tryd.prog W = .ok (.enter 21 args) W := fun _ _ => by kernel_rfl
theorem cons2_lo (s : ByteArray) (w : World) : Calls Tryd.prog 18 #[.string s, .int .i64 2, .func (.func 19) #[] #[]] w fun e w' => e = .returned (.bool (consN isLo 2 s.data.toList)) ∧ w = w' := consN_h isLo_h enters_lo s 2 w (by decide)
theorem cons3_lo (s : ByteArray) (w : World) : Calls Tryd.prog 18 #[.string s, .int .i64 3, .func (.func 19) #[] #[]] w fun e w' => e = .returned (.bool (consN isLo 3 s.data.toList)) ∧ w = w' := consN_h isLo_h enters_lo s 3 w (by decide)
theorem cons2_up (s : ByteArray) (w : World) : Calls Tryd.prog 18 #[.string s, .int .i64 2, .func (.func 20) #[] #[]] w fun e w' => e = .returned (.bool (consN isUp 2 s.data.toList)) ∧ w = w' := consN_h isUp_h enters_up s 2 w (by decide)
theorem cons3_dg (s : ByteArray) (w : World) : Calls Tryd.prog 18 #[.string s, .int .i64 3, .func (.func 21) #[] #[]] w fun e w' => e = .returned (.bool (consN isDg 3 s.data.toList)) ∧ w = w' := consN_h isDg_h enters_dg s 3 w (by decide)
theorem isLang_h (l : LB) (w : World) : Calls Tryd.prog 12 #[.string (bsL l)] w fun e w' => e = .returned (.bool (isLangB l)) ∧ w = w' := by
  obtain ⟨s, hs⟩ : ∃ s, bsL l = s := ⟨_, rfl⟩
  obtain ⟨a, ha⟩ : ∃ a, consN isLo 2 s.data.toList = a := ⟨_, rfl⟩
  obtain ⟨b, hb⟩ : ∃ a, consN isLo 3 s.data.toList = a := ⟨_, rfl⟩
  have HV : Hid (isLangB l = (a || b)) := by unfold Hid isLangB; rw [← ha, ← hb, ← hs]; rfl
  have C2 : Hid (∀ W : World, Calls Tryd.prog 18 #[.string s, .int .i64 2, .func (.func 19) #[] #[]] W fun e w' => e = .returned (.bool a) ∧ W = w') := fun W => ha ▸ cons2_lo s W
  have C3 : Hid (∀ W : World, Calls Tryd.prog 18 #[.string s, .int .i64 3, .func (.func 19) #[] #[]] W fun e w' => e = .returned (.bool b) ∧ W = w') := fun W => hb ▸ cons3_lo s W
  rw [hs]
  clear hs ha hb
  cases a <;>
  · go_enter Tryd.func12, Tryd.ntmps12
    go_wp2_with (first | (go_at_call 18; (first | (with_reducible refine (C2.out _).mono ?_) | (with_reducible refine (C3.out _).mono ?_)); rintro e w1 ⟨rfl, rfl⟩) | fail)
    go_ret
    exact ⟨xbool HV.out.symm, rfl⟩
theorem isReg_h (l : LB) (w : World) : Calls Tryd.prog 13 #[.string (bsL l)] w fun e w' => e = .returned (.bool (isRegB l)) ∧ w = w' := by
  obtain ⟨s, hs⟩ : ∃ s, bsL l = s := ⟨_, rfl⟩
  obtain ⟨a, ha⟩ : ∃ a, consN isUp 2 s.data.toList = a := ⟨_, rfl⟩
  obtain ⟨b, hb⟩ : ∃ a, consN isDg 3 s.data.toList = a := ⟨_, rfl⟩
  have HV : Hid (isRegB l = (a || b)) := by unfold Hid isRegB; rw [← ha, ← hb, ← hs]; rfl
  have C2 : Hid (∀ W : World, Calls Tryd.prog 18 #[.string s, .int .i64 2, .func (.func 20) #[] #[]] W fun e w' => e = .returned (.bool a) ∧ W = w') := fun W => ha ▸ cons2_up s W
  have C3 : Hid (∀ W : World, Calls Tryd.prog 18 #[.string s, .int .i64 3, .func (.func 21) #[] #[]] W fun e w' => e = .returned (.bool b) ∧ W = w') := fun W => hb ▸ cons3_dg s W
  rw [hs]
  clear hs ha hb
  cases a <;>
  · go_enter Tryd.func13, Tryd.ntmps13
    go_wp2_with (first | (go_at_call 18; (first | (with_reducible refine (C2.out _).mono ?_) | (with_reducible refine (C3.out _).mono ?_)); rintro e w1 ⟨rfl, rfl⟩) | fail)
    go_ret
    exact ⟨xbool HV.out.symm, rfl⟩
theorem isLow_h (l : LB) (w : World) : Calls Tryd.prog 27 #[.string (bsL l)] w fun e w' => e = .returned (.bool (isLowB l)) ∧ w = w' := by
  obtain ⟨s, hs⟩ : ∃ s, bsL l = s := ⟨_, rfl⟩
  obtain ⟨a, ha⟩ : ∃ a, consN isLo 2 s.data.toList = a := ⟨_, rfl⟩
  obtain ⟨b, hb⟩ : ∃ a, consN isDg 3 s.data.toList = a := ⟨_, rfl⟩
  have HV : Hid (isLowB l = (a || b)) := by unfold Hid isLowB; rw [← ha, ← hb, ← hs]; rfl
  have C2 : Hid (∀ W : World, Calls Tryd.prog 18 #[.string s, .int .i64 2, .func (.func 19) #[] #[]] W fun e w' => e = .returned (.bool a) ∧ W = w') := fun W => ha ▸ cons2_lo s W
  have C3 : Hid (∀ W : World, Calls Tryd.prog 18 #[.string s, .int .i64 3, .func (.func 21) #[] #[]] W fun e w' => e = .returned (.bool b) ∧ W = w') := fun W => hb ▸ cons3_dg s W
  rw [hs]
  clear hs ha hb
  cases a <;>
  · go_enter Tryd.func27, Tryd.ntmps27
    go_wp2_with (first | (go_at_call 18; (first | (with_reducible refine (C2.out _).mono ?_) | (with_reducible refine (C3.out _).mono ?_)); rintro e w1 ⟨rfl, rfl⟩) | fail)
    go_ret
    exact ⟨xbool HV.out.symm, rfl⟩
theorem isSys_h (l : LB) (w : World) : Calls Tryd.prog 30 #[.string (bsL l)] w fun e w' => e = .returned (.bool (isSysB l)) ∧ w = w' := by
  obtain ⟨s, hs⟩ : ∃ s, bsL l = s := ⟨_, rfl⟩
  have hl : s.toList = l := by rw [Lib.toList_data, ← hs]; rfl
  obtain ⟨a, ha⟩ : ∃ a, (l == ([109, 101, 116, 114, 105, 99] : LB)) = a := ⟨_, rfl⟩
  obtain ⟨b, hb⟩ : ∃ a, (l == ([117, 115, 115, 121, 115, 116, 101, 109] : LB)) = a := ⟨_, rfl⟩
  obtain ⟨c, hc⟩ : ∃ a, (l == ([117, 107, 115, 121, 115, 116, 101, 109] : LB)) = a := ⟨_, rfl⟩
  have HV : Hid (isSysB l = (a || (b || c))) := by unfold Hid isSysB; rw [← ha, ← hb, ← hc]; rfl
  rw [← hl] at ha hb hc
  rw [hs]
  clear hs hl
  cases a <;> cases b <;> cases c <;>
  · go_enter Tryd.func30, Tryd.ntmps30
    go_wp2
    go_ret
    exact ⟨xbool HV.out.symm, rfl⟩
theorem isUni_h (l : LB) (w : World) : Calls Tryd.prog 31 #[.string (bsL l)] w fun e w' => e = .returned (.bool (isUniB l)) ∧ w = w' := by
  obtain ⟨s, hs⟩ : ∃ s, bsL l = s := ⟨_, rfl⟩
  have hl : s.toList = l := by rw [Lib.toList_data, ← hs]; rfl
  obtain ⟨a, ha⟩ : ∃ a, (l == ([99, 101, 108, 115, 105, 117, 115] : LB)) = a := ⟨_, rfl⟩
  obtain ⟨b, hb⟩ : ∃ a, (l == ([102, 97, 104, 114, 101, 110, 104, 101] : LB)) = a := ⟨_, rfl⟩
  obtain ⟨c, hc⟩ : ∃ a, (l == ([107, 101, 108, 118, 105, 110] : LB)) = a := ⟨_, rfl⟩
  have HV : Hid (isUniB l = (a || (b || c))) := by unfold Hid isUniB; rw [← ha, ← hb, ← hc]
  rw [← hl] at ha hb hc
  rw [hs]
  clear hs hl
  cases a <;> cases b <;> cases c <;>
  · go_enter Tryd.func31, Tryd.ntmps31
    go_wp2
    go_ret
    exact ⟨xbool HV.out.symm, rfl⟩
end Go.Proofs.YtogekaakpfdhdaaDoor.X
