/- Several texts in one, each with its own sentence and conditions. -/
import Derived.Test.YtkjcnpckajpogaaDoorGKxc1
import Derived.Maps.OwnSet
import Derived.Maps.OwnOps
import Derived.StringKeys
import Derived.Laws.MakeOwn
import Derived.Deep.LoopGhost
section
/- Package atom: powerWord, leadingPower. Conditions: a power from 2 to 15. -/
open Go.RowKit
set_option maxRecDepth 100000
namespace Go.Proofs.YtkjcnpckajpogaaDoor
theorem khide {p : Prop} (h : p) : Hid p := h
theorem numB_size (n : Nat) : (numB n).size ≤ 2 := by unfold numB; split <;> exact of_decide_eq_true rfl
theorem powerWord_any {n : Nat} (h2 : 2 ≤ n) (h15 : n < 16) (w : World) : Calls Tryd.prog 23 #[.int .i64 (n : Int)] w fun e w' => e = .returned (.string (pwB n)) ∧ w = w' := by
  by_cases e2 : n = 2
  · subst e2
    go_enter Tryd.func23, Tryd.ntmps23
    go_wp2
    go_ret
    exact ⟨rfl, rfl⟩
  by_cases e3 : n = 3
  · subst e3
    go_enter Tryd.func23, Tryd.ntmps23
    go_wp2
    go_ret
    exact ⟨rfl, rfl⟩
  · have d2 : ((n : Int) == 2) = false := by rw [beq_eq_false_iff_ne]; omega
    have d3 : ((n : Int) == 3) = false := by rw [beq_eq_false_iff_ne]; omega
    obtain ⟨t, ht⟩ : ∃ t, t = numB n := ⟨_, rfl⟩
    have CI : Hid (∀ W : World, Calls Tryd.prog 36 #[.int .i64 (n : Int)] W fun e w' => e = .returned (.string t) ∧ W = w') := fun W => (Tryd.strconv_Itoa_small n (by omega) W).mono fun e w' ⟨h1, h3⟩ => ⟨by rw [h1, decDigits_num (by omega), ht], h3.symm⟩
    have hs : t.size ≤ 2 := by rw [ht]; exact numB_size n
    have HV : Hid (pwB n = powB ++ t) := by unfold Hid pwB; rw [if_neg e2, if_neg e3, ht]
    clear ht e2 e3 h2 h15
    go_enter Tryd.func23, Tryd.ntmps23
    go_wp2_with (first | (go_at_call 36; (with_reducible refine (CI.out _).mono ?_); rintro e w1 ⟨rfl, rfl⟩) | fail)
    go_ret
    exact ⟨by rw [HV.out]; rfl, rfl⟩
def RetII (W : World) (a b : Int) (e : Ending) (w' : World) : Prop := e = .returned (.tuple #[.int .i64 a, .int .i64 b]) ∧ Bel W w'
def leadP : List ByteArray → Nat × Nat
  | [] => (1, 0)
  | s :: _ => if powOf s = 0 then (1, 0) else (powOf s, 1)
theorem bel_drewN {w W : World} {q : Nat} (h : Hid (W = w.drewN q)) : Bel w W := by rw [h.out]; exact ybelow_drewN (Below.refl _ _) q
set_option maxHeartbeats 2000000 in
theorem lead_any {A : Option Addr} {n c : Nat} {xs : List ByteArray} {w : World} (h : Ss w A xs) (hn : n = xs.length) : Calls Tryd.prog 19 #[.slice A n c] w (RetII w ((leadP xs).1 : Int) ((leadP xs).2 : Int)) := by
  have CP : Hid (∀ (n : Nat) (W : World), 2 ≤ n → n < 16 → Calls Tryd.prog 23 #[.int .i64 (n : Int)] W fun e w' => e = .returned (.string (pwB n)) ∧ W = w') := fun n W h2 h15 => powerWord_any h2 h15 W
  cases xs with
  | nil =>
    subst hn
    clear h
    go_enter Tryd.func19, Tryd.ntmps19
    go_wp2
    go_ret2
    exact ⟨rfl, Bel.refl _⟩
  | cons s ys =>
    obtain ⟨ad, rfl, hb, hcell0⟩ := h.out.at_ (k := 0) (by simp)
    rw [show (s :: ys)[0] = s from rfl, show ad.add 0 = ad by simp [Addr.add]] at hcell0
    have hn0 : 0 < n := by rw [hn]; simp
    have d1 : ((n : Int) == 0) = false := by rw [beq_eq_false_iff_ne]; omega
    have d2 : (0 : Int) < (n : Int) := by omega
    clear hn h
    go_enter Tryd.func19, Tryd.ntmps19
    go_wp2
    go_loopw [4] (fun iv wr => ∃ k q : Nat, 2 ≤ k ∧ k ≤ 16 ∧ iv = .int .i64 (k : Int) ∧ Hid (wr = w.drewN q) ∧ Hid (∀ m, m < k → 2 ≤ m → s ≠ pwB m)) (fun iv _ => 16 - (intOf iv).toNat)
    case atStart => exact ⟨2, 0, by omega, by omega, rfl, rfl, fun m h1 h2 => by omega⟩
    case round =>
      obtain ⟨k, q, hk2, hk, rfl, HQ, HM⟩ := hrel
      by_cases hlt : k < 16
      · have hcell : wr.cell? ad = some (.string s) := by rw [HQ.out]; exact hcell0
        have d3 : decide ((k : Int) ≤ 15) = true := decide_eq_true (by omega)
        obtain ⟨t, ht⟩ : ∃ t, t = pwB k := ⟨_, rfl⟩
        have CQ : Hid (∀ W : World, Calls Tryd.prog 23 #[.int .i64 (k : Int)] W fun e w' => e = .returned (.string t) ∧ w' = W) := fun W => (ht ▸ CP.out k W hk2 hlt).mono fun e w' ⟨h1, h3⟩ => ⟨h1, h3.symm⟩
        have HT := khide ht
        clear ht
        by_cases he : s = t
        · have HE : Hid (powOf s = k) := by unfold Hid; rw [he, HT.out]; exact powOf_pw k hlt hk2
          have e2 : (s.toList == t.toList) = true := by rw [he]; simp
          have HK2 := khide hk2
          clear he
          go_wp2_with fail
          go_quiet (first | (go_at_call 23; exact Calls.quiet_of_same (CQ.out _)) | fail)
          go_wp2
          go_ret2
          obtain ⟨q2, hq2⟩ := ydrew_more HQ
          refine ⟨?_, bel_drewN hq2⟩
          have hne : ¬ powOf s = 0 := by rw [HE.out]; have := HK2.out; omega
          simp only [leadP]
          rw [if_neg hne, HE.out]; rfl
        · have e2 : (s.toList == t.toList) = false := by
            rw [beq_eq_false_iff_ne]; intro e3; rw [Lib.toList_data, Lib.toList_data] at e3
            exact he (ByteArray.ext (Array.ext' e3))
          have HE := khide he
          clear he
          go_wp2_with fail
          go_quiet (first | (go_at_call 23; exact Calls.quiet_of_same (CQ.out _)) | fail)
          go_wp2
          go_roundw
          case rel =>
            obtain ⟨q2, hq2⟩ := ydrew_more HQ
            refine ⟨k + 1, q2, by omega, by omega, by go_num, hq2, fun m h1 h2 => ?_⟩
            rcases Nat.lt_or_ge m k with h3 | h3
            · exact HM.out m h3 h2
            · obtain rfl : m = k := by omega
              rw [← HT.out]; exact HE.out
          case measure => simp [intOf]; omega
      · obtain rfl : k = 16 := by omega
        go_wp2
        go_ret2
        refine ⟨?_, bel_drewN HQ⟩
        simp only [leadP]
        rw [if_pos (powOf_no HM.out)]; rfl
end Go.Proofs.YtkjcnpckajpogaaDoor
end

section
/- Package atom: isDigits, isReserved. Conditions: a text that fits. -/
open Go.RowKit
set_option maxRecDepth 100000
namespace Go.Proofs.YtkjcnpckajpogaaDoor
theorem toList_inj {a b : ByteArray} (h : a.toList = b.toList) : a = b := by
  rw [Lib.toList_data, Lib.toList_data] at h
  exact ByteArray.ext (Array.ext' h)
theorem str_ne {a b : ByteArray} (h : a ≠ b) : (a.toList == b.toList) = false := by
  rw [beq_eq_false_iff_ne]; exact fun e => h (toList_inj e)
theorem str_lit {a b : ByteArray} {l : List UInt8} (h : a ≠ b) (hl : b.data.toList = l) : (a.toList == l) = false := by
  rw [← hl, ← Lib.toList_data]; exact str_ne h
theorem trim_h {s : ByteArray} (hs : s.size ≤ 9223372036854775807) (w : World) : Calls Tryd.prog 57 #[.string s, .string ⟨#[48, 49, 50, 51, 52, 53, 54, 55, 56, 57]⟩] w fun e w' => e = .returned (.string ⟨(Lib.trimS s.data.toList digitSet).toArray⟩) ∧ Bel w w' :=
  Any.strings_Trim_ascii Tryd.lays160 (fun w => by kernel_rfl) (by kernel_rfl) s ⟨#[48, 49, 50, 51, 52, 53, 54, 55, 56, 57]⟩ w hs (by decide) (fun j b hb => by
    have hm := List.mem_of_getElem? hb
    have : ∀ b ∈ digitSet, b.toNat < 128 := by decide
    exact this b hm)
theorem isDigits_h {s : ByteArray} {r : Bool} (hs : s.size ≤ 9223372036854775807) (hr : digitsB s.data.toList = r) (w : World) : Calls Tryd.prog 47 #[.string s] w (RetB w r) := by
  cases he : s.toList.isEmpty with
  | true =>
    have HV : Hid (false = r) := by
      unfold Hid; rw [← hr]; unfold digitsB
      rw [Lib.toList_data] at he
      rw [he]; rfl
    clear hr hs
    go_enter Tryd.func47, Tryd.ntmps47
    go_wp2
    go_ret
    exact ⟨ybool HV.out, Bel.refl _⟩
  | false =>
    obtain ⟨t, ht⟩ : ∃ t : ByteArray, t = ⟨(Lib.trimS s.data.toList digitSet).toArray⟩ := ⟨_, rfl⟩
    have CT : Hid (∀ W : World, Calls Tryd.prog 57 #[.string s, .string ⟨#[48, 49, 50, 51, 52, 53, 54, 55, 56, 57]⟩] W fun e w' => e = .returned (.string t) ∧ Bel W w') := fun W => ht ▸ trim_h hs W
    have hb : t.toList.isEmpty = r := by
      rw [ht, Lib.toList_data]
      show (Lib.trimS s.data.toList digitSet).isEmpty = r
      rw [trim_digits, ← hr]; unfold digitsB
      rw [Lib.toList_data] at he
      rw [he]; rfl
    clear ht hs hr
    go_enter Tryd.func47, Tryd.ntmps47
    go_wp2_with (first | (go_at_call 57; (with_reducible refine (CT.out _).mono ?_); rintro e w1 ⟨rfl, HB⟩) | fail)
    go_ret
    exact ⟨rfl, HB⟩
theorem resB_lit {s : ByteArray} (h : s = perB ∨ s = andB ∨ s = sqB ∨ s = cuB) : resB s = true := by
  rcases h with rfl | rfl | rfl | rfl <;> decide +kernel
set_option maxHeartbeats 2000000 in
theorem isReserved_h {s : ByteArray} {r : Bool} (hs : s.size ≤ 9223372036854775807) (hr : resB s = r) (w : World) : Calls Tryd.prog 34 #[.string s] w (RetB w r) := by
  by_cases h1 : s = perB ∨ s = andB ∨ s = sqB ∨ s = cuB
  · rw [resB_lit h1] at hr
    subst hr
    clear hs
    rcases h1 with rfl | rfl | rfl | rfl
    all_goals
      (first | unfold perB | unfold andB | unfold sqB | unfold cuB)
      go_enter Tryd.func34, Tryd.ntmps34
      go_wp2
      go_ret
      exact ⟨rfl, Bel.refl _⟩
  · have n1 : s ≠ perB := fun h => h1 (.inl h)
    have n2 : s ≠ andB := fun h => h1 (.inr (.inl h))
    have n3 : s ≠ sqB := fun h => h1 (.inr (.inr (.inl h)))
    have n4 : s ≠ cuB := fun h => h1 (.inr (.inr (.inr h)))
    have d1 : (s.toList == [112, 101, 114]) = false := str_lit n1 rfl
    have d2 : (s.toList == [97, 110, 100]) = false := str_lit n2 rfl
    have d3 : (s.toList == [115, 113, 117, 97, 114, 101]) = false := str_lit n3 rfl
    have d4 : (s.toList == [99, 117, 98, 105, 99]) = false := str_lit n4 rfl
    obtain ⟨b1, hb1⟩ : ∃ b, digitsB s.data.toList = b := ⟨_, rfl⟩
    obtain ⟨b2, hb2⟩ : ∃ b, Lib.hasPrefix s.data.toList powB.data.toList = b := ⟨_, rfl⟩
    obtain ⟨t, ht⟩ : ∃ t : ByteArray, t = ⟨(Lib.trimPrefix s.data.toList powB.data.toList).toArray⟩ := ⟨_, rfl⟩
    obtain ⟨b3, hb3⟩ : ∃ b, digitsB t.data.toList = b := ⟨_, rfl⟩
    have hts : t.size ≤ 9223372036854775807 := by
      rw [ht, Lib.size_eq]
      show (Lib.trimPrefix s.data.toList powB.data.toList).length ≤ _
      rw [Lib.size_eq] at hs
      unfold Lib.trimPrefix
      split
      · rw [List.length_drop]; omega
      · exact hs
    have HV : Hid ((b1 || (b2 && b3)) = r) := by
      unfold Hid; rw [← hr]; unfold resB
      rw [decide_eq_false n1, decide_eq_false n2, decide_eq_false n3, decide_eq_false n4, hb1, hb2]
      cases b2 with
      | false => rfl
      | true =>
        have e : t.data.toList = s.data.toList.drop 3 := by
          rw [ht]
          show Lib.trimPrefix s.data.toList powB.data.toList = _
          unfold Lib.trimPrefix
          rw [hb2]; rfl
        rw [← e, hb3]; rfl
    have CC : Hid (∀ W : World, Calls Tryd.prog 46 #[.string s, .string ⟨#[112, 111, 119]⟩] W fun e w' => e = .returned (.tuple #[.string t, .bool b2]) ∧ W = w') := fun W => (Tryd.strings_CutPrefix s powB W).mono fun e w' ⟨h1, h3⟩ => ⟨by rw [h1, ht, hb2], h3.symm⟩
    have CD1 : Hid (∀ W : World, Calls Tryd.prog 47 #[.string s] W (RetB W b1)) := fun W => isDigits_h hs hb1 W
    have CD2 : Hid (∀ W : World, Calls Tryd.prog 47 #[.string t] W (RetB W b3)) := fun W => isDigits_h hts hb3 W
    clear hb1 hb2 hb3 ht hts hs hr n1 n2 n3 n4 h1
    cases b1 <;> cases b2
    all_goals
      go_enter Tryd.func34, Tryd.ntmps34
      go_wp2_with (first | (go_at_call 46; (with_reducible refine (CC.out _).mono ?_); rintro e w1 ⟨rfl, rfl⟩) | (go_at_call 47; (with_reducible refine (CD1.out _).mono ?_); rintro e w2 ⟨rfl, HB⟩) | (go_at_call 47; (with_reducible refine (CD2.out _).mono ?_); rintro e w3 ⟨rfl, HB2⟩; replace HB := HB.up HB2.hid) | fail)
      go_ret
      exact ⟨ybool HV.out, HB⟩
end Go.Proofs.YtkjcnpckajpogaaDoor
end

section
/- A set of strings as a map; package atom: isGoodList, Good. Conditions: texts and lists that fit. -/
open Go.RowKit
set_option maxRecDepth 100000
namespace Go.Proofs.YtkjcnpckajpogaaDoor
theorem skeyed : Go.Maps.Keyed Tryd.prog 9 := Go.Maps.string_keyed Tryd.underlying9
def slit (s : ByteArray) : Lit := .string s.data.toList
theorem skeyOf {s : ByteArray} (h : s.size ≤ 2000000) : keyOf Tryd.prog 9 (.string s) = some (slit s) := Go.WideMaps.keyOf_string_mk Tryd.underlying9 (by unfold maxLen; omega)
theorem slit_inj {a b : ByteArray} (h : slit a = slit b) : a = b := by
  unfold slit at h
  injection h with h
  exact ByteArray.ext (Array.ext' h)
/-- Block b is the set of the strings xs. -/
def SetIs (w : World) (b : Nat) (xs : List ByteArray) : Prop := ∃ D : DataW Unit, w.ownsMap Tryd.prog 9 unitElem b xs.length D ∧ Maps.IsMap D ∧ ∀ s : ByteArray, Maps.has D (slit s) = hasB xs s
theorem setIs_new (w : World) : SetIs (w.alloc (.map #[] 0)) w.heap.size [] :=
  ⟨.map [], World.ownsMap_made _ _ _ _, Maps.isMap_empty, fun _ => rfl⟩
theorem unit_zero (w : World) : (zeroValue 61).run Tryd.prog w = .ok (.agg #[]) w := by kernel_rfl
theorem SetIs.look {w : World} {b : Nat} {xs : List ByteArray} {s : ByteArray} (h : SetIs w b xs) (hs : s.size ≤ 2000000) : (Instr.lookup 60 (.map (some b)) (.string s) true).run Tryd.prog w = .ok (.tuple #[.agg #[], .bool (hasB xs s)]) w := by
  obtain ⟨D, h1, _, h3⟩ := h
  obtain ⟨v, ps, hrun, hv⟩ := h1.look_ok skeyed Tryd.underlying60 (unit_zero _) unitElem_mk (skeyOf hs)
  obtain ⟨rfl, _⟩ := unitElem_inv hv
  rw [hrun, h3]
theorem hasB_snoc (xs : List ByteArray) (x y : ByteArray) : hasB (xs ++ [x]) y = (hasB xs y || decide (x = y)) := by
  unfold hasB; rw [List.any_append]; simp
theorem SetIs.put {w : World} {b : Nat} {xs : List ByteArray} {s : ByteArray} (h : SetIs w b xs) (hs : s.size ≤ 2000000) (hl : xs.length ≤ 2000000) :
    ∃ w', (Instr.mapUpdate 60 (.map (some b)) (.string s) (.agg #[])).run Tryd.prog w = .ok () w' ∧ SetIs w' b (xs ++ [s]) ∧ w.grownBy w' (some b) := by
  obtain ⟨D, h1, h2, h3⟩ := h
  obtain ⟨w', hr, ho, hg⟩ := h1.update skeyed Tryd.underlying60 (by unfold maxLen; omega) (skeyOf hs) unitElem_mk
  refine ⟨w', hr, ⟨_, by simpa using ho, h2.put _ _, fun c => ?_⟩, hg⟩
  rw [hasB_snoc]
  by_cases e : s = c
  · subst e
    rw [Maps.has_put_same h2 (skeyed.key (skeyOf hs))]; simp
  · rw [Maps.has_put_other (fun h5 => e (slit_inj h5).symm), h3, decide_eq_false e, Bool.or_false]
theorem SetIs.lt {w : World} {b : Nat} {xs : List ByteArray} (h : SetIs w b xs) : b < w.heap.size := by
  obtain ⟨D, h1, _⟩ := h; exact h1.lt
theorem SetIs.up {w w' : World} {b : Nat} {xs : List ByteArray} (h : SetIs w b xs) (hb : Hid (Below w.heap.size w w')) : SetIs w' b xs := by
  have e := hb.out.block b h.lt
  obtain ⟨D, ⟨es, clock, h1, F, hs, hD⟩, h2, h3⟩ := h
  exact ⟨D, ⟨es, clock, e.trans h1, F, hs, hD⟩, h2, h3⟩
theorem SetIs.al {w : World} {b : Nat} {xs : List ByteArray} (h : SetIs w b xs) (o : Obj) : SetIs (w.alloc o) b xs := h.up ((Below.refl _ _).alloc (Nat.le_refl _) o)
set_option maxHeartbeats 4000000 in
theorem isGoodList_any {A : Option Addr} {n c : Nat} {xs : List ByteArray} {w : World} (h : Ss w A xs) (hn : n = xs.length) (hl : n ≤ 1000000) (hs : ∀ x ∈ xs, x.size ≤ 2000000) : Calls Tryd.prog 21 #[.slice A n c] w (RetB w (goodL xs)) := by
  have CG := khide wgood_any
  have CR : Hid (∀ (s : ByteArray) (W : World), s.size ≤ 2000000 → Calls Tryd.prog 34 #[.string s] W (RetB W (resB s))) := fun s W h => isReserved_h (by omega) rfl W
  have HN := khide hn
  have HS := khide hs
  have hmm := @run_makeMap Tryd.prog
  clear hn hs
  go_enter Tryd.func21, Tryd.ntmps21
  go_upto_region 3 with fail
  refine kwp_named ?_
  intro W0 hW0
  have HB0 : Bel w W0 := by rw [hW0]; exact (Bel.refl w).al _
  have HT0 : SetIs W0 w.heap.size [] := by rw [hW0]; exact setIs_new w
  obtain ⟨b, hb⟩ : ∃ b, b = w.heap.size := ⟨_, rfl⟩
  rw [← hb] at HT0
  rw [← hb]
  have HBB : Hid (w.heap.size ≤ b) := Nat.le_of_eq hb.symm
  clear hW0 hmm hb
  go_loopw [11] (fun iv wr => ∃ k : Nat, k ≤ n ∧ iv = .int .i64 (k : Int) ∧ Hid (Bel w wr) ∧ Hid (SetIs wr b (xs.take k)) ∧ Hid (goodL (xs.take k) = true)) (fun iv _ => n - (intOf iv).toNat)
  case atStart => exact ⟨0, Nat.zero_le _, rfl, HB0, HT0, goodL_nil⟩
  case round =>
    obtain ⟨k, hk, rfl, HB, HT, HG⟩ := hrel
    by_cases hlt : k < n
    · have hx : k < xs.length := by rw [← HN.out]; exact hlt
      obtain ⟨ad, rfl, had, hcell⟩ := (h.up HB.out.hid).out.at_ hx
      obtain ⟨x, hxe⟩ : ∃ x, x = xs[k] := ⟨_, rfl⟩
      rw [← hxe] at hcell
      have HX : Hid (x.size ≤ 2000000) := HS.out x (by rw [hxe]; exact List.getElem_mem hx)
      obtain ⟨b1, hb1⟩ : ∃ v, hasB (xs.take k) x = v := ⟨_, rfl⟩
      obtain ⟨b2, hb2⟩ : ∃ v, goodW x.data.toList = v := ⟨_, rfl⟩
      obtain ⟨b3, hb3⟩ : ∃ v, resB x = v := ⟨_, rfl⟩
      have hlook := HT.out.look HX.out
      rw [hb1] at hlook
      have C2 : Hid (∀ W : World, Calls Tryd.prog 33 #[.string x] W fun e w' => e = .returned (.bool b2) ∧ W = w') := fun W => hb2 ▸ CG.out x W
      have C3 : Hid (∀ W : World, Calls Tryd.prog 34 #[.string x] W (RetB W b3)) := fun W => hb3 ▸ CR.out x W HX.out
      have HV : Hid (goodL (xs.take (k + 1)) = ((b2 && !b3) && !b1)) := by
        unfold Hid
        rw [goodL_take hx, HG.out, ← hxe, hb1]
        unfold mayB; rw [hb2, hb3]; rfl
      have HF : Hid (goodL (xs.take (k + 1)) = false → goodL xs = false) := goodL_bad hx
      have HX2 : Hid (xs.take (k + 1) = xs.take k ++ [x]) := by rw [hxe]; exact List.take_succ_eq_append_getElem hx
      have HKL : Hid ((xs.take k).length ≤ 2000000) := by unfold Hid; rw [List.length_take]; omega
      clear hb1 hb2 hb3 hxe hx
      have HB1 : Hid (Bel w (wr.alloc (.cells #[] 61))) := HB.out.al _
      by_cases hgo : b1 = false ∧ b2 = true ∧ b3 = false
      · obtain ⟨rfl, rfl, rfl⟩ := hgo
        go_upto_region 8 with (first | (go_at_call 33; (with_reducible refine (C2.out _).mono ?_); rintro e w1 ⟨rfl, rfl⟩) | (go_at_call 34; (with_reducible refine (C3.out _).mono ?_); rintro e w2 ⟨rfl, hb2⟩; replace HB1 : Hid (Bel w w2) := HB1.out.up hb2.hid; have HT2 : Hid (SetIs w2 b (xs.take k)) := (HT.out.al _).up hb2.hid; clear hb2 hlook hcell) | fail)
        obtain ⟨W3, hrun, HT3, hgrow⟩ := HT2.out.put HX.out HKL.out
        have HB3 : Hid (Bel w W3) := Below.grown HB1.out hgrow HB1.out.size (fun q e => by injection e with e; have := HBB.out; omega)
        clear HT HT2 hgrow HB1
        go_wp2
        go_roundw
        case rel => exact ⟨k + 1, by omega, by go_num, HB3, by rw [HX2.out]; exact HT3, HV.out⟩
        case measure => simp [intOf]; omega
      · have HFF : Hid (goodL xs = false) := HF.out (by rw [HV.out]; cases b1 <;> cases b2 <;> cases b3 <;> simp at hgo ⊢)
        cases b1 <;> cases b2 <;> cases b3
        all_goals (try (exfalso; exact hgo ⟨rfl, rfl, rfl⟩))
        all_goals clear hgo
        all_goals go_wp2_with (first | (go_at_call 33; (with_reducible refine (C2.out _).mono ?_); rintro e w1 ⟨rfl, rfl⟩) | (go_at_call 34; (with_reducible refine (C3.out _).mono ?_); rintro e w2 ⟨rfl, hb2⟩; replace HB1 : Hid (Bel w w2) := HB1.out.up hb2.hid) | fail)
        all_goals go_ret
        all_goals exact ⟨ybool HFF.out.symm, HB1.out⟩
    · obtain rfl : k = n := by omega
      go_wp2
      go_ret
      refine ⟨ybool ?_, HB.out⟩
      have h3 := HG.out
      rw [List.take_of_length_le (by rw [← HN.out]; exact Nat.le_refl _)] at h3
      exact h3.symm
end Go.Proofs.YtkjcnpckajpogaaDoor
end

section
/- Package atom: Good. Conditions: texts and lists that fit. -/
open Go.RowKit
set_option maxRecDepth 100000
namespace Go.Proofs.YtkjcnpckajpogaaDoor
set_option maxHeartbeats 2000000 in
theorem good_any {A B : Option Addr} {n c m d : Nat} {xs ys : List ByteArray} {w : World} (h : Ss w A xs) (hn : n = xs.length) (hl : n ≤ 1000000) (hs : ∀ x ∈ xs, x.size ≤ 2000000) (h' : Ss w B ys) (hm : m = ys.length) (hl' : m ≤ 1000000) (hs' : ∀ x ∈ ys, x.size ≤ 2000000) :
    Calls Tryd.prog 10 #[.agg #[.slice A n c, .slice B m d]] w (RetB w (goodL xs && goodL ys)) := by
  have C1 : Hid (∀ W, Bel w W → Calls Tryd.prog 21 #[.slice A n c] W (RetB W (goodL xs))) := fun W hb => isGoodList_any (h.up hb.hid) hn hl hs
  have C2 : Hid (∀ W, Bel w W → Calls Tryd.prog 21 #[.slice B m d] W (RetB W (goodL ys))) := fun W hb => isGoodList_any (h'.up hb.hid) hm hl' hs'
  obtain ⟨b1, hb1⟩ : ∃ b, goodL xs = b := ⟨_, rfl⟩
  obtain ⟨b2, hb2⟩ : ∃ b, goodL ys = b := ⟨_, rfl⟩
  rw [hb1] at C1
  rw [hb2] at C2
  rw [hb1, hb2]
  clear hb1 hb2 h h' hn hm hl hl' hs hs'
  obtain ⟨W1, hW1⟩ : ∃ X, X = w.alloc (.cells #[.slice A n c, .slice B m d] 29) := ⟨_, rfl⟩
  have HA : At W1 w.heap.size [.slice A n c, .slice B m d] := by rw [hW1]; exact at_new0 _ _ _
  have HB : Bel w W1 := by rw [hW1]; exact (Bel.refl w).al _
  have HW := khide hW1
  clear hW1
  have ha_0 := HA.c0; have ha_1 := HA.c1; have ha_l := HA.lt
  cases b1
  all_goals
    go_enter Tryd.func10, Tryd.ntmps10
    go_upto_region 1 with fail
    rw [← HW.out]
    go_wp2_with (first | (go_at_call 21; (with_reducible refine (C1.out _ HB).mono ?_); rintro e w1 ⟨rfl, hb⟩; replace HA := HA.up hb.hid; replace HB := HB.up hb.hid; clear ha_0 ha_1 ha_l; have ha_0 := HA.c0; have ha_1 := HA.c1; have ha_l := HA.lt) | (go_at_call 21; (with_reducible refine (C2.out _ HB).mono ?_); rintro e w2 ⟨rfl, hb2⟩; replace HB := HB.up hb2.hid) | fail)
    go_ret
    exact ⟨rfl, HB⟩
end Go.Proofs.YtkjcnpckajpogaaDoor
end

section
/- Package atom: prefixSize. Conditions: a text that fits. -/
open Go.RowKit
set_option maxRecDepth 100000
namespace Go.Proofs.YtkjcnpckajpogaaDoor
theorem Tryd.infoBool : (Tryd.prog.info? 4).map (fun i => (i.zero, i.size, i.bytes)) = some (some (.bool false), 1, 1) := by kernel_rfl
theorem make_bools (n : Nat) (hn : n ≤ 281474976710656) (w : World) : (Instr.makeSlice 58 (.int .i64 (n : Int)) (.int .i64 (n : Int))).run Tryd.prog w =
    .ok (.slice (some ⟨w.heap.size, 0, none⟩) n n) (w.alloc (.cells (madeCells #[.bool false] n) 4)) := by
  obtain ⟨i0, hi0, hz0, hz1, hz2⟩ := info_parts Tryd.infoBool
  have h := run_make (P := Tryd.prog) w 58 4 i0 (.bool false) Tryd.underlying58 hi0 hz0 .i64 .i64 n n (by omega) (by omega) (by rw [hz2]; omega) (by omega)
  simpa [hz1, Value.cells] using h
/-- Block q holds n flags: flag i is f i. -/
def Bs (W : World) (q n : Nat) (f : Nat → Bool) : Prop := At W q ((List.range n).map fun i => .bool (f i))
theorem made_bools (w : World) (n : Nat) : Bs (w.alloc (.cells (madeCells #[.bool false] n) 4)) w.heap.size n (fun _ => false) := by
  have e : madeCells #[.bool false] n = ((List.range n).map fun _ => Value.bool false).toArray := by
    apply Array.ext
    · simp [size_madeCells]
    · intro i h1 h2
      simp [madeCells, Nat.mod_one]
  rw [e]
  exact at_new0 _ _ _
section
variable {W W' : World} {q n i : Nat} {f : Nat → Bool}
theorem Bs.up (h : Bs W q n f) (hb : Hid (Below W.heap.size W W')) : Bs W' q n f := At.up h hb
theorem Bs.get (h : Bs W q n f) (hi : i < n) : W.cell? ⟨q, i, none⟩ = some (.bool (f i)) := At.ci h (by rw [List.getElem?_map, List.getElem?_range hi]; rfl)
theorem Bs.fz (h : Bs W q n f) (hi : i < n) : W.frozen? ⟨q, i, none⟩ = false := At.fi (v := .bool (f i)) h (by rw [List.getElem?_map, List.getElem?_range hi]; rfl)
theorem Bs.set (h : Bs W q n f) (hi : i < n) : Bs (W.setCell ⟨q, i, none⟩ (.bool true)) q n (fun j => f j || (i == j)) := by
  have h1 := At.put h (i := i) (by simpa using hi) (.bool true)
  unfold Bs
  have e : ((List.range n).map fun i => Value.bool (f i)).set i (.bool true) = (List.range n).map fun j => Value.bool (f j || (i == j)) := by
    apply List.ext_getElem?
    intro k
    by_cases hk : i = k
    · subst hk
      rw [List.getElem?_set_self (by simpa using hi), List.getElem?_map, List.getElem?_range hi]; simp
    · rw [List.getElem?_set_ne hk, List.getElem?_map, List.getElem?_map]
      cases hg : (List.range n)[k]? with
      | none => rfl
      | some x =>
        have hx : x = k := by
          have := List.getElem?_eq_some_iff.1 hg
          obtain ⟨h2, h3⟩ := this
          rw [List.getElem_range] at h3; exact h3.symm
        subst hx
        have : (i == x) = false := beq_eq_false_iff_ne.2 hk
        simp [this]
  rw [← e]; exact h1
theorem Bs.congr {g : Nat → Bool} (h : Bs W q n f) (e : ∀ i, i < n → f i = g i) : Bs W q n g := by
  have e2 : ((List.range n).map fun i => Value.bool (f i)) = (List.range n).map fun i => Value.bool (g i) := by
    apply List.map_congr_left
    intro i hi
    rw [e i (List.mem_range.1 hi)]
  unfold Bs at h ⊢
  rw [← e2]; exact h
end
def sizeP (names ps : List ByteArray) (u : ByteArray) : Nat × Bool := if hasB names u then (0, true) else (lpB names u ps, decide (0 < lpB names u ps))
def RetIB (W : World) (a : Int) (b : Bool) (e : Ending) (w' : World) : Prop := e = .returned (.tuple #[.int .i64 a, .bool b]) ∧ Bel W w'
set_option maxHeartbeats 4000000 in
theorem prefixSize_any {A B : Option Addr} {n c m d : Nat} {names ps : List ByteArray} {u : ByteArray} {w : World} (h : Ss w A names) (hn : n = names.length) (hl : n ≤ 1000000) (h' : Ss w B ps) (hm : m = ps.length) (hl' : m ≤ 1000000) (hu : u.size ≤ 140737488355328) :
    Calls Tryd.prog 20 #[.agg #[.slice A n c, .slice B m d], .string u] w (RetIB w ((sizeP names ps u).1 : Int) (sizeP names ps u).2) := by
  have CS : Hid (∀ (x : ByteArray) (W : World), Calls Tryd.prog 31 #[.string u, .string x] W fun e w' => e = .returned (.bool (Lib.hasSuffix u.data.toList x.data.toList)) ∧ W = w') := fun x W => (Tryd.strings_HasSuffix u x W (by omega)).mono fun e w' ⟨h1, h3⟩ => ⟨h1, h3.symm⟩
  have CP : Hid (∀ (x : ByteArray) (W : World), Calls Tryd.prog 32 #[.string u, .string x] W fun e w' => e = .returned (.bool (Lib.hasPrefix u.data.toList x.data.toList)) ∧ W = w') := fun x W => (Tryd.strings_HasPrefix u x W).mono fun e w' ⟨h1, h3⟩ => ⟨h1, h3.symm⟩
  have HN := khide hn
  have HM := khide hm
  have hmk : ∀ W : World, (Instr.makeSlice 58 (.int .i64 ((u.size : Int) + 1)) (.int .i64 ((u.size : Int) + 1))).run Tryd.prog W = .ok (.slice (some ⟨W.heap.size, 0, none⟩) (u.size + 1) (u.size + 1)) (W.alloc (.cells (madeCells #[.bool false] (u.size + 1)) 4)) := fun W => make_bools (u.size + 1) (by omega) W
  clear hn hm
  obtain ⟨W1, hW1⟩ : ∃ X, X = (w.alloc (.cells #[.slice A n c, .slice B m d] 29)).alloc (.cells (madeCells #[.bool false] (u.size + 1)) 4) := ⟨_, rfl⟩
  have HA : At W1 w.heap.size [.slice A n c, .slice B m d] := by rw [hW1]; exact (at_new0 _ _ _).al _
  have HB : Bel w W1 := by rw [hW1]; exact ((Bel.refl w).al _).al _
  have HE : Bs W1 (w.heap.size + 1) (u.size + 1) (endB (names.take 0) u) := by
    rw [hW1]
    have h2 := made_bools (w.alloc (.cells #[.slice A n c, .slice B m d] 29)) (u.size + 1)
    rw [show (w.alloc (.cells #[.slice A n c, .slice B m d] 29)).heap.size = w.heap.size + 1 by simp] at h2
    exact h2
  have HW := khide hW1
  clear hW1
  have ha_0 := HA.c0; have ha_1 := HA.c1; have ha_l := HA.lt
  go_enter Tryd.func20, Tryd.ntmps20
  go_upto_region 2 with fail
  rw [← HW.out]
  obtain ⟨p, hp⟩ : ∃ p, p = w.heap.size := ⟨_, rfl⟩
  obtain ⟨q, hq⟩ : ∃ p, p = w.heap.size + 1 := ⟨_, rfl⟩
  have HQ : Hid (w.heap.size ≤ q) := by unfold Hid; omega
  have HPQ : Hid (q ≠ p) := by unfold Hid; omega
  rw [← hp] at HA ha_0 ha_1 ha_l
  rw [← hq] at HE
  rw [← hq, ← hp]
  clear HW hmk hp hq
  go_upto_region 3 with fail
  clear ha_0 ha_1 ha_l
  go_loopw [19] (fun iv wr => ∃ k : Nat, k ≤ n ∧ iv = .int .i64 (k : Int) ∧ Hid (Bel w wr) ∧ Hid (At wr p [.slice A n c, .slice B m d]) ∧ Hid (Bs wr q (u.size + 1) (endB (names.take k) u))) (fun iv _ => n - (intOf iv).toNat)
  case atStart => exact ⟨0, Nat.zero_le _, rfl, HB, HA, HE⟩
  case round =>
    clear HB HA HE
    obtain ⟨k, hk, rfl, HB, HA, HE⟩ := hrel
    by_cases hlt : k < n
    · have hx : k < names.length := by rw [← HN.out]; exact hlt
      obtain ⟨ad, rfl, had, hcell⟩ := (h.up HB.out.hid).out.at_ hx
      obtain ⟨x, hxe⟩ : ∃ x, x = names[k] := ⟨_, rfl⟩
      rw [← hxe] at hcell
      obtain ⟨b, hb⟩ : ∃ b, Lib.hasSuffix u.data.toList x.data.toList = b := ⟨_, rfl⟩
      have CX : Hid (∀ W : World, Calls Tryd.prog 31 #[.string u, .string x] W fun e w' => e = .returned (.bool b) ∧ W = w') := fun W => hb ▸ CS.out x W
      have HV : Hid (∀ i, endB (names.take (k + 1)) u i = (endB (names.take k) u i || (b && (u.size - x.size == i)))) := fun i => by rw [endB_take hx, ← hxe, hb]
      cases b with
      | false =>
        have HE2 : Hid (Bs wr q (u.size + 1) (endB (names.take (k + 1)) u)) := HE.out.congr (fun i _ => by rw [HV.out i]; simp)
        clear hb hxe hx HV
        go_wp2_with (first | (go_at_call 31; (with_reducible refine (CX.out _).mono ?_); rintro e w1 ⟨rfl, rfl⟩) | fail)
        go_roundw
        case rel => exact ⟨k + 1, by omega, by go_num, HB, HA, HE2⟩
        case measure => simp [intOf]; omega
      | true =>
        have hsz : x.size ≤ u.size := ((suffix_iff u x).1 hb).1
        obtain ⟨i, hi⟩ : ∃ i, u.size - x.size = i := ⟨_, rfl⟩
        have e1 : (u.size : Int) - (x.size : Int) = (i : Int) := by omega
        have hi2 : i < u.size + 1 := by omega
        have hi3 : (i : Int) < (u.size : Int) + 1 := by omega
        have e0 := HE.out.get hi2
        have e0f := HE.out.fz hi2
        have e0l := HE.out.lt
        have HE2 : Hid (Bs (wr.setCell ⟨q, i, none⟩ (.bool true)) q (u.size + 1) (endB (names.take (k + 1)) u)) := (HE.out.set hi2).congr (fun j _ => by rw [HV.out j, hi]; rfl)
        have HA2 := khide (HA.out.far (i := i) HPQ.out (.bool true))
        have HB2 : Hid (Bel w (wr.setCell ⟨q, i, none⟩ (.bool true))) := Below.setCell HB.out HQ.out _
        clear hb hxe hx HV hi hsz
        go_wp2_with (first | (go_at_call 31; (with_reducible refine (CX.out _).mono ?_); rintro e w1 ⟨rfl, rfl⟩) | fail)
        go_roundw
        case rel => exact ⟨k + 1, by omega, by go_num, HB2, HA2, HE2⟩
        case measure => simp [intOf]; omega
    · obtain rfl : k = n := by omega
      have HE2 : Hid (Bs wr q (u.size + 1) (endB names u)) := by
        have h3 := HE.out
        rwa [List.take_of_length_le (by rw [← HN.out]; exact Nat.le_refl _)] at h3
      clear HE hlt hk
      have e0 := HE2.out.get (i := 0) (by omega)
      have el := HE2.out.lt
      obtain ⟨b, hb⟩ : ∃ b, endB names u 0 = b := ⟨_, rfl⟩
      rw [hb] at e0
      have HH : Hid (hasB names u = b) := by
        unfold Hid; rw [← hb, endB_mem (Nat.zero_le _), restB_zero]
      clear hb
      have ha_0 := HA.out.c0; have ha_1 := HA.out.c1; have ha_l := HA.out.lt
      cases b with
      | true =>
        go_wp2
        go_ret2
        refine ⟨?_, HB.out⟩
        unfold sizeP
        rw [HH.out]; rfl
      | false =>
        go_wp2_with fail
        go_loop [9, 40] (fun lv iv => ∃ k : Nat, k ≤ m ∧ iv = .int .i64 (k : Int) ∧ lv = .int .i64 ((lpB names u (ps.take k) : Nat) : Int)) (fun _ iv => m - (intOf iv).toNat)
        case atStart => exact ⟨0, Nat.zero_le _, rfl, rfl⟩
        case round =>
          obtain ⟨k, hk, rfl, rfl⟩ := hrel
          by_cases hlt : k < m
          · have hx : k < ps.length := by rw [← HM.out]; exact hlt
            obtain ⟨bd, rfl, hbd, hcell⟩ := (h'.up HB.out.hid).out.at_ hx
            obtain ⟨x, hxe⟩ : ∃ x, x = ps[k] := ⟨_, rfl⟩
            rw [← hxe] at hcell
            obtain ⟨b, hb⟩ : ∃ b, Lib.hasPrefix u.data.toList x.data.toList = b := ⟨_, rfl⟩
            obtain ⟨e, he⟩ : ∃ e, hasB names (restB u x.size) = e := ⟨_, rfl⟩
            have CX : Hid (∀ W : World, Calls Tryd.prog 32 #[.string u, .string x] W fun e w' => e = .returned (.bool b) ∧ W = w') := fun W => hb ▸ CP.out x W
            obtain ⟨L, hL⟩ : ∃ L, lpB names u (ps.take k) = L := ⟨_, rfl⟩
            have HV : Hid (lpB names u (ps.take (k + 1)) = if (b && e) then max L x.size else L) := by
              unfold Hid; rw [lpB_take hx, ← hxe, hL]; unfold hitB; rw [hb, he]
            have HLu : Hid (L ≤ u.size) := by unfold Hid; rw [← hL]; exact lpB_le ps k (by omega)
            rw [hL]
            cases b with
            | false =>
              have HV2 : Hid (lpB names u (ps.take (k + 1)) = L) := HV.out
              clear hb he hL hxe hx HV
              go_wp2_with (first | (go_at_call 32; (with_reducible refine (CX.out _).mono ?_); rintro e w1 ⟨rfl, rfl⟩) | fail)
              go_round
              case rel => exact ⟨k + 1, by omega, by go_num, by rw [HV2.out]⟩
              case measure => simp [intOf]; omega
            | true =>
              have hsz : x.size ≤ u.size := by
                have h1 : x.data.toList <+: u.data.toList := List.isPrefixOf_iff_prefix.1 hb
                rw [Lib.size_eq, Lib.size_eq]; exact h1.length_le
              have e1 := HE2.out.get (i := x.size) (by omega)
              rw [endB_mem hsz, he] at e1
              have hi3 : (x.size : Int) < (u.size : Int) + 1 := by omega
              cases e with
              | false =>
                have HV2 : Hid (lpB names u (ps.take (k + 1)) = L) := HV.out
                clear hb he hL hxe hx HV
                go_wp2_with (first | (go_at_call 32; (with_reducible refine (CX.out _).mono ?_); rintro e w1 ⟨rfl, rfl⟩) | fail)
                go_round
                case rel => exact ⟨k + 1, by omega, by go_num, by rw [HV2.out]⟩
                case measure => simp [intOf]; omega
              | true =>
                have HV2 : Hid (lpB names u (ps.take (k + 1)) = max L x.size) := HV.out
                clear hb he hL hxe hx HV
                go_wp2_with (first | (go_at_call 32; (with_reducible refine (CX.out _).mono ?_); rintro e w1 ⟨rfl, rfl⟩) | fail)
                go_round
                case rel => exact ⟨k + 1, by omega, by go_num, by rw [HV2.out, show max (L : Int) (x.size : Int) = ((max L x.size : Nat) : Int) by omega]⟩
                case measure => simp [intOf]; omega
          · obtain rfl : k = m := by omega
            obtain ⟨L, hL⟩ : ∃ L, lpB names u ps = L := ⟨_, rfl⟩
            have e2 : ps.take k = ps := List.take_of_length_le (by rw [← HM.out]; exact Nat.le_refl _)
            rw [e2, hL]
            have HLL := khide hL
            clear e2 hL
            by_cases h0 : 0 < L
            · have d0 : decide ((0 : Int) < (L : Int)) = true := decide_eq_true (by omega)
              have HD : Hid (decide (0 < L) = true) := decide_eq_true h0
              clear h0
              go_wp2
              go_ret2
              refine ⟨?_, HB.out⟩
              unfold sizeP
              rw [HH.out, HLL.out]
              simp only [Bool.false_eq_true, if_false]
              rw [HD.out]; try rfl
            · have d0 : decide ((0 : Int) < (L : Int)) = false := decide_eq_false (by omega)
              have HD : Hid (decide (0 < L) = false) := decide_eq_false h0
              clear h0
              go_wp2
              go_ret2
              refine ⟨?_, HB.out⟩
              unfold sizeP
              rw [HH.out, HLL.out]
              simp only [Bool.false_eq_true, if_false]
              rw [HD.out]; try rfl
end Go.Proofs.YtkjcnpckajpogaaDoor
end

section
/- Package atom: Parse. Conditions: texts and lists that fit. -/
open Go.RowKit
set_option maxRecDepth 100000
namespace Go.Proofs.YtkjcnpckajpogaaDoor
def eB : ByteArray := ⟨#[]⟩
/-- An atom, the words that it takes, and whether there is one. -/
structure PA where
  p : ByteArray
  n : ByteArray
  k : Nat
  t : Nat
  ok : Bool
def noPA : PA := ⟨eB, eB, 0, 0, false⟩
def parseU (names ps : List ByteArray) (k t : Nat) (u : ByteArray) : PA := if (sizeP names ps u).2 then ⟨u.extract 0 (sizeP names ps u).1, restB u (sizeP names ps u).1, k, t + 1, true⟩ else noPA
def parseA (names ps l : List ByteArray) : PA :=
  match l[(leadP l).2]? with
  | none => noPA
  | some u => parseU names ps (leadP l).1 (leadP l).2 u
theorem leadP_le (l : List ByteArray) : (leadP l).2 ≤ l.length ∧ (leadP l).2 ≤ 1 := by
  cases l with
  | nil => exact ⟨Nat.le_refl _, by decide⟩
  | cons s l =>
    by_cases h : powOf s = 0
    · have e : leadP (s :: l) = (1, 0) := if_pos h
      rw [e]; simp
    · have e : leadP (s :: l) = (powOf s, 1) := if_neg h
      rw [e]; simp
theorem sizeP_le (names ps : List ByteArray) (u : ByteArray) : (sizeP names ps u).1 ≤ u.size := by
  unfold sizeP
  split
  · simp
  · have := lpB_le (names := names) (u := u) ps ps.length (Nat.le_refl _)
    rwa [List.take_length] at this
def PRes (W : World) (a : PA) (e : Ending) (w' : World) : Prop := e = .returned (.tuple #[.agg #[.string a.p, .string a.n, .int .i64 (a.k : Int)], .int .i64 (a.t : Int), .bool a.ok]) ∧ Bel W w'
theorem kbelow3 {W w2 : World} {p : Nat} (h : Bel W w2) (hp : W.heap.size ≤ p) (x y z : Value) : Bel W (((w2.setCell ⟨p, 0, none⟩ x).setCell ⟨p, 1, none⟩ y).setCell ⟨p, 2, none⟩ z) :=
  ((Below.setCell h hp _).setCell hp _).setCell hp _
set_option maxHeartbeats 4000000 in
theorem parse_any {A B D : Option Addr} {n c m d j g : Nat} {names ps l : List ByteArray} {w : World} (h : Ss w A names) (hn : n = names.length) (hl : n ≤ 1000000) (h' : Ss w B ps) (hm : m = ps.length) (hl' : m ≤ 1000000) (h2 : Ss w D l) (hj : j = l.length) (hu : ∀ x ∈ l, x.size ≤ 140737488355328) :
    Calls Tryd.prog 8 #[.agg #[.slice A n c, .slice B m d], .slice D j g] w (PRes w (parseA names ps l)) := by
  obtain ⟨pw, hpw⟩ : ∃ x, (leadP l).1 = x := ⟨_, rfl⟩
  obtain ⟨tk, htk⟩ : ∃ x, (leadP l).2 = x := ⟨_, rfl⟩
  have CL : Hid (∀ W, Bel w W → Calls Tryd.prog 19 #[.slice D j g] W (RetII W (pw : Int) (tk : Int))) := fun W hb => by rw [← hpw, ← htk]; exact lead_any (h2.up hb.hid) hj
  have hle := leadP_le l
  rw [htk] at hle
  have HV : Hid (parseA names ps l = match l[tk]? with | none => noPA | some u => parseU names ps pw tk u) := by unfold Hid parseA; rw [hpw, htk]
  obtain ⟨W1, hW1⟩ : ∃ X, X = (w.alloc (.cells #[.slice A n c, .slice B m d] 29)).alloc (.cells #[.string ⟨#[]⟩, .string ⟨#[]⟩, .int .i64 0] 24) := ⟨_, rfl⟩
  have HA : At W1 w.heap.size [.slice A n c, .slice B m d] := by rw [hW1]; exact (at_new0 _ _ _).al _
  have HR : At W1 (w.heap.size + 1) [.string ⟨#[]⟩, .string ⟨#[]⟩, .int .i64 0] := by rw [hW1]; exact at_new1 _ _ _ _
  have HB : Bel w W1 := by rw [hW1]; exact ((Bel.refl w).al _).al _
  have HW := khide hW1
  have HN := khide hn
  have HM := khide hm
  have HJ := khide hj
  clear hW1 hpw htk hn hm
  go_enter Tryd.func8, Tryd.ntmps8
  go_upto_region 1 with fail
  rw [← HW.out]
  obtain ⟨p, hp⟩ : ∃ p, p = w.heap.size := ⟨_, rfl⟩
  obtain ⟨q, hq⟩ : ∃ p, p = w.heap.size + 1 := ⟨_, rfl⟩
  have HQ : Hid (w.heap.size ≤ q) := by unfold Hid; omega
  rw [← hp] at HA
  rw [← hq] at HR
  rw [← hq, ← hp]
  clear HW hp hq
  by_cases he : tk = j
  · have d1 : ((tk : Int) == (j : Int)) = true := by rw [beq_iff_eq]; omega
    have HV2 : Hid (parseA names ps l = noPA) := by unfold Hid; rw [HV.out, List.getElem?_eq_none (by omega)]
    have HE := khide he
    clear he hle hu HV hj
    go_upto_region 2 with (first | (go_at_call 19; (with_reducible refine (CL.out _ HB).mono ?_); rintro e w1 ⟨rfl, hb⟩; (replace HA := HA.up hb.hid); (replace HR := HR.up hb.hid); (replace HB := HB.up hb.hid); clear hb) | fail)
    have hr_0 := HR.c0; have hr_1 := HR.c1; have hr_2 := HR.c2; have hr_l := HR.lt; have hr_f0 := HR.f0; have hr_f1 := HR.f1; have hr_f2 := HR.f2
    go_wp2_with fail
    refine bodyPost_ret (v := .tuple #[.agg #[.string ⟨#[]⟩, .string ⟨#[]⟩, .int .i64 0], .int .i64 0, .bool false]) (by simp [results, Tryd.results8, go_sem, hr_0, hr_1, hr_2]) rfl ⟨?_, ?_⟩
    · rw [HV2.out]; rfl
    · exact kbelow3 HB HQ.out _ _ _
  · have d1 : ((tk : Int) == (j : Int)) = false := by rw [beq_eq_false_iff_ne]; omega
    have hk : tk < l.length := by omega
    obtain ⟨u, hu2⟩ : ∃ u, u = l[tk] := ⟨_, rfl⟩
    have huz : Hid (u.size ≤ 140737488355328) := hu u (by rw [hu2]; exact List.getElem_mem hk)
    obtain ⟨sz, hsz⟩ : ∃ x, (sizeP names ps u).1 = x := ⟨_, rfl⟩
    obtain ⟨ok, hok⟩ : ∃ x, (sizeP names ps u).2 = x := ⟨_, rfl⟩
    have CP : Hid (∀ W, Bel w W → Calls Tryd.prog 20 #[.agg #[.slice A n c, .slice B m d], .string u] W (RetIB W (sz : Int) ok)) := fun W hb => by rw [← hsz, ← hok]; exact prefixSize_any (h.up hb.hid) HN.out hl (h'.up hb.hid) HM.out hl' huz.out
    have hle2 : sz ≤ u.size := by rw [← hsz]; exact sizeP_le names ps u
    have HV2 : Hid (parseA names ps l = if ok then ⟨u.extract 0 sz, restB u sz, pw, tk + 1, true⟩ else noPA) := by
      unfold Hid
      rw [HV.out, List.getElem?_eq_getElem hk, ← hu2]
      show parseU names ps pw tk u = _
      unfold parseU; rw [hsz, hok]
    obtain ⟨ad, rfl, had, hcell⟩ := h2.out.at_ hk
    rw [← hu2] at hcell
    have t1 : (tk : Int) < (j : Int) := by omega
    have t2 : (0 : Int) ≤ (tk : Int) := by omega
    have HT1 : Hid (tk ≤ 1) := hle.2
    have s1 : (sz : Int) ≤ (u.size : Int) := by omega
    have s2 : (0 : Int) ≤ (sz : Int) := by omega
    have hC : Hid (∀ W', Bel w W' → W'.cell? (ad.add tk) = some (.string u)) := fun W' hb => (hb.cell (by rw [yblock_add]; exact had)).trans hcell
    clear hcell had hu2 hu hle HV hj he hk hsz hok
    go_upto_region 4 with (first | (go_at_call 19; (with_reducible refine (CL.out _ HB).mono ?_); rintro e w1 ⟨rfl, hb⟩; (replace HA := HA.up hb.hid); (replace HR := HR.up hb.hid); (replace HB := HB.up hb.hid); clear hb) | fail)
    have hcell := hC.out _ HB
    have ha_0 := HA.c0; have ha_1 := HA.c1; have ha_l := HA.lt
    cases ok with
    | false =>
      go_upto_region 7 with (first | (go_at_call 20; (with_reducible refine (CP.out _ HB).mono ?_); rintro e w2 ⟨rfl, hb⟩; (replace HA := HA.up hb.hid); (replace HR := HR.up hb.hid); (replace HB := HB.up hb.hid); clear hb hcell ha_0 ha_1 ha_l) | fail)
      have hr_0 := HR.c0; have hr_1 := HR.c1; have hr_2 := HR.c2; have hr_l := HR.lt; have hr_f0 := HR.f0; have hr_f1 := HR.f1; have hr_f2 := HR.f2
      go_wp2_with fail
      refine bodyPost_ret (v := .tuple #[.agg #[.string ⟨#[]⟩, .string ⟨#[]⟩, .int .i64 0], .int .i64 0, .bool false]) (by simp [results, Tryd.results8, go_sem, hr_0, hr_1, hr_2]) rfl ⟨?_, kbelow3 HB HQ.out _ _ _⟩
      rw [HV2.out]; rfl
    | true =>
      go_upto_region 8 with (first | (go_at_call 20; (with_reducible refine (CP.out _ HB).mono ?_); rintro e w2 ⟨rfl, hb⟩; (replace HA := HA.up hb.hid); (replace HR := HR.up hb.hid); (replace HB := HB.up hb.hid); clear hb hcell ha_0 ha_1 ha_l) | fail)
      have hr_0 := HR.c0; have hr_1 := HR.c1; have hr_2 := HR.c2; have hr_l := HR.lt; have hr_f0 := HR.f0; have hr_f1 := HR.f1; have hr_f2 := HR.f2
      go_region
      all_goals go_wp2_with fail
      have e9 : wrap64 ((tk : Int) + 1) = (tk : Int) + 1 := by have := HT1.out; unfold wrap64; omega
      all_goals refine bodyPost_ret (v := .tuple #[.agg #[.string (u.extract 0 sz), .string (u.extract sz u.size), .int .i64 (pw : Int)], .int .i64 ((tk : Int) + 1), .bool true]) (by simp [results, Tryd.results8, go_sem, hr_0, hr_1, hr_2, e9]) rfl ⟨?_, (kbelow3 HB HQ.out _ _ _).dr⟩
      all_goals (rw [HV2.out]; rfl)
end Go.Proofs.YtkjcnpckajpogaaDoor
end
