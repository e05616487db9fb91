/- Package atom: prefixSize. Conditions: a text that fits. -/
import Derived.Test.YtkjcnpckajpogaaDoorKf
import Derived.Laws.MakeOwn
import Derived.Deep.LoopGhost
open Go.RowKit
set_option maxRecDepth 100000
namespace Go.Proofs.YtkjcnpckajpogaaDoor
theorem Tryd.infoBool : (Tryd.prog.info? 4).map (fun i => (i.zero, i.size, i.bytes)) = some (some (.bool false), 1, 1) := by kernel_rfl
theorem make_bools (n : Nat) (hn : n ≤ 281474976710656) (w : World) : (Instr.makeSlice 58 (.int .i64 (n : Int)) (.int .i64 (n : Int))).run Tryd.prog w =
    .ok (.slice (some ⟨w.heap.size, 0, none⟩) n n) (w.alloc (.cells (madeCells #[.bool false] n) 4)) := by
  obtain ⟨i0, hi0, hz0, hz1, hz2⟩ := info_parts Tryd.infoBool
  have h := run_make (P := Tryd.prog) w 58 4 i0 (.bool false) Tryd.underlying58 hi0 hz0 .i64 .i64 n n (by omega) (by omega) (by rw [hz2]; omega) (by omega)
  simpa [hz1, Value.cells] using h
/-- Block q holds n flags: flag i is f i. -/
def Bs (W : World) (q n : Nat) (f : Nat → Bool) : Prop := At W q ((List.range n).map fun i => .bool (f i))
theorem made_bools (w : World) (n : Nat) : Bs (w.alloc (.cells (madeCells #[.bool false] n) 4)) w.heap.size n (fun _ => false) := by
  have e : madeCells #[.bool false] n = ((List.range n).map fun _ => Value.bool false).toArray := by
    apply Array.ext
    · simp [size_madeCells]
    · intro i h1 h2
      simp [madeCells, Nat.mod_one]
  rw [e]
  exact at_new0 _ _ _
section
variable {W W' : World} {q n i : Nat} {f : Nat → Bool}
theorem Bs.up (h : Bs W q n f) (hb : Hid (Below W.heap.size W W')) : Bs W' q n f := At.up h hb
theorem Bs.get (h : Bs W q n f) (hi : i < n) : W.cell? ⟨q, i, none⟩ = some (.bool (f i)) := At.ci h (by rw [List.getElem?_map, List.getElem?_range hi]; rfl)
theorem Bs.fz (h : Bs W q n f) (hi : i < n) : W.frozen? ⟨q, i, none⟩ = false := At.fi (v := .bool (f i)) h (by rw [List.getElem?_map, List.getElem?_range hi]; rfl)
theorem Bs.set (h : Bs W q n f) (hi : i < n) : Bs (W.setCell ⟨q, i, none⟩ (.bool true)) q n (fun j => f j || (i == j)) := by
  have h1 := At.put h (i := i) (by simpa using hi) (.bool true)
  unfold Bs
  have e : ((List.range n).map fun i => Value.bool (f i)).set i (.bool true) = (List.range n).map fun j => Value.bool (f j || (i == j)) := by
    apply List.ext_getElem?
    intro k
    by_cases hk : i = k
    · subst hk
      rw [List.getElem?_set_self (by simpa using hi), List.getElem?_map, List.getElem?_range hi]; simp
    · rw [List.getElem?_set_ne hk, List.getElem?_map, List.getElem?_map]
      cases hg : (List.range n)[k]? with
      | none => rfl
      | some x =>
        have hx : x = k := by
          have := List.getElem?_eq_some_iff.1 hg
          obtain ⟨h2, h3⟩ := this
          rw [List.getElem_range] at h3; exact h3.symm
        subst hx
        have : (i == x) = false := beq_eq_false_iff_ne.2 hk
        simp [this]
  rw [← e]; exact h1
theorem Bs.congr {g : Nat → Bool} (h : Bs W q n f) (e : ∀ i, i < n → f i = g i) : Bs W q n g := by
  have e2 : ((List.range n).map fun i => Value.bool (f i)) = (List.range n).map fun i => Value.bool (g i) := by
    apply List.map_congr_left
    intro i hi
    rw [e i (List.mem_range.1 hi)]
  unfold Bs at h ⊢
  rw [← e2]; exact h
end
def sizeP (names ps : List ByteArray) (u : ByteArray) : Nat × Bool := if hasB names u then (0, true) else (lpB names u ps, decide (0 < lpB names u ps))
def RetIB (W : World) (a : Int) (b : Bool) (e : Ending) (w' : World) : Prop := e = .returned (.tuple #[.int .i64 a, .bool b]) ∧ Bel W w'
set_option maxHeartbeats 4000000 in
theorem prefixSize_any {A B : Option Addr} {n c m d : Nat} {names ps : List ByteArray} {u : ByteArray} {w : World} (h : Ss w A names) (hn : n = names.length) (hl : n ≤ 1000000) (h' : Ss w B ps) (hm : m = ps.length) (hl' : m ≤ 1000000) (hu : u.size ≤ 140737488355328) :
    Calls Tryd.prog 20 #[.agg #[.slice A n c, .slice B m d], .string u] w (RetIB w ((sizeP names ps u).1 : Int) (sizeP names ps u).2) := by
  have CS : Hid (∀ (x : ByteArray) (W : World), Calls Tryd.prog 31 #[.string u, .string x] W fun e w' => e = .returned (.bool (Lib.hasSuffix u.data.toList x.data.toList)) ∧ W = w') := fun x W => (Tryd.strings_HasSuffix u x W (by omega)).mono fun e w' ⟨h1, h3⟩ => ⟨h1, h3.symm⟩
  have CP : Hid (∀ (x : ByteArray) (W : World), Calls Tryd.prog 32 #[.string u, .string x] W fun e w' => e = .returned (.bool (Lib.hasPrefix u.data.toList x.data.toList)) ∧ W = w') := fun x W => (Tryd.strings_HasPrefix u x W).mono fun e w' ⟨h1, h3⟩ => ⟨h1, h3.symm⟩
  have HN := khide hn
  have HM := khide hm
  have hmk : ∀ W : World, (Instr.makeSlice 58 (.int .i64 ((u.size : Int) + 1)) (.int .i64 ((u.size : Int) + 1))).run Tryd.prog W = .ok (.slice (some ⟨W.heap.size, 0, none⟩) (u.size + 1) (u.size + 1)) (W.alloc (.cells (madeCells #[.bool false] (u.size + 1)) 4)) := fun W => make_bools (u.size + 1) (by omega) W
  clear hn hm
  obtain ⟨W1, hW1⟩ : ∃ X, X = (w.alloc (.cells #[.slice A n c, .slice B m d] 29)).alloc (.cells (madeCells #[.bool false] (u.size + 1)) 4) := ⟨_, rfl⟩
  have HA : At W1 w.heap.size [.slice A n c, .slice B m d] := by rw [hW1]; exact (at_new0 _ _ _).al _
  have HB : Bel w W1 := by rw [hW1]; exact ((Bel.refl w).al _).al _
  have HE : Bs W1 (w.heap.size + 1) (u.size + 1) (endB (names.take 0) u) := by
    rw [hW1]
    have h2 := made_bools (w.alloc (.cells #[.slice A n c, .slice B m d] 29)) (u.size + 1)
    rw [show (w.alloc (.cells #[.slice A n c, .slice B m d] 29)).heap.size = w.heap.size + 1 by simp] at h2
    exact h2
  have HW := khide hW1
  clear hW1
  have ha_0 := HA.c0; have ha_1 := HA.c1; have ha_l := HA.lt
  go_enter Tryd.func20, Tryd.ntmps20
  go_upto_region 2 with fail
  rw [← HW.out]
  obtain ⟨p, hp⟩ : ∃ p, p = w.heap.size := ⟨_, rfl⟩
  obtain ⟨q, hq⟩ : ∃ p, p = w.heap.size + 1 := ⟨_, rfl⟩
  have HQ : Hid (w.heap.size ≤ q) := by unfold Hid; omega
  have HPQ : Hid (q ≠ p) := by unfold Hid; omega
  rw [← hp] at HA ha_0 ha_1 ha_l
  rw [← hq] at HE
  rw [← hq, ← hp]
  clear HW hmk hp hq
  go_upto_region 3 with fail
  clear ha_0 ha_1 ha_l
  go_loopw [19] (fun iv wr => ∃ k : Nat, k ≤ n ∧ iv = .int .i64 (k : Int) ∧ Hid (Bel w wr) ∧ Hid (At wr p [.slice A n c, .slice B m d]) ∧ Hid (Bs wr q (u.size + 1) (endB (names.take k) u))) (fun iv _ => n - (intOf iv).toNat)
  case atStart => exact ⟨0, Nat.zero_le _, rfl, HB, HA, HE⟩
  case round =>
    clear HB HA HE
    obtain ⟨k, hk, rfl, HB, HA, HE⟩ := hrel
    by_cases hlt : k < n
    · have hx : k < names.length := by rw [← HN.out]; exact hlt
      obtain ⟨ad, rfl, had, hcell⟩ := (h.up HB.out.hid).out.at_ hx
      obtain ⟨x, hxe⟩ : ∃ x, x = names[k] := ⟨_, rfl⟩
      rw [← hxe] at hcell
      obtain ⟨b, hb⟩ : ∃ b, Lib.hasSuffix u.data.toList x.data.toList = b := ⟨_, rfl⟩
      have CX : Hid (∀ W : World, Calls Tryd.prog 31 #[.string u, .string x] W fun e w' => e = .returned (.bool b) ∧ W = w') := fun W => hb ▸ CS.out x W
      have HV : Hid (∀ i, endB (names.take (k + 1)) u i = (endB (names.take k) u i || (b && (u.size - x.size == i)))) := fun i => by rw [endB_take hx, ← hxe, hb]
      cases b with
      | false =>
        have HE2 : Hid (Bs wr q (u.size + 1) (endB (names.take (k + 1)) u)) := HE.out.congr (fun i _ => by rw [HV.out i]; simp)
        clear hb hxe hx HV
        go_wp2_with (first | (go_at_call 31; (with_reducible refine (CX.out _).mono ?_); rintro e w1 ⟨rfl, rfl⟩) | fail)
        go_roundw
        case rel => exact ⟨k + 1, by omega, by go_num, HB, HA, HE2⟩
        case measure => simp [intOf]; omega
      | true =>
        have hsz : x.size ≤ u.size := ((suffix_iff u x).1 hb).1
        obtain ⟨i, hi⟩ : ∃ i, u.size - x.size = i := ⟨_, rfl⟩
        have e1 : (u.size : Int) - (x.size : Int) = (i : Int) := by omega
        have hi2 : i < u.size + 1 := by omega
        have hi3 : (i : Int) < (u.size : Int) + 1 := by omega
        have e0 := HE.out.get hi2
        have e0f := HE.out.fz hi2
        have e0l := HE.out.lt
        have HE2 : Hid (Bs (wr.setCell ⟨q, i, none⟩ (.bool true)) q (u.size + 1) (endB (names.take (k + 1)) u)) := (HE.out.set hi2).congr (fun j _ => by rw [HV.out j, hi]; rfl)
        have HA2 := khide (HA.out.far (i := i) HPQ.out (.bool true))
        have HB2 : Hid (Bel w (wr.setCell ⟨q, i, none⟩ (.bool true))) := Below.setCell HB.out HQ.out _
        clear hb hxe hx HV hi hsz
        go_wp2_with (first | (go_at_call 31; (with_reducible refine (CX.out _).mono ?_); rintro e w1 ⟨rfl, rfl⟩) | fail)
        go_roundw
        case rel => exact ⟨k + 1, by omega, by go_num, HB2, HA2, HE2⟩
        case measure => simp [intOf]; omega
    · obtain rfl : k = n := by omega
      have HE2 : Hid (Bs wr q (u.size + 1) (endB names u)) := by
        have h3 := HE.out
        rwa [List.take_of_length_le (by rw [← HN.out]; exact Nat.le_refl _)] at h3
      clear HE hlt hk
      have e0 := HE2.out.get (i := 0) (by omega)
      have el := HE2.out.lt
      obtain ⟨b, hb⟩ : ∃ b, endB names u 0 = b := ⟨_, rfl⟩
      rw [hb] at e0
      have HH : Hid (hasB names u = b) := by
        unfold Hid; rw [← hb, endB_mem (Nat.zero_le _), restB_zero]
      clear hb
      have ha_0 := HA.out.c0; have ha_1 := HA.out.c1; have ha_l := HA.out.lt
      cases b with
      | true =>
        go_wp2
        go_ret2
        refine ⟨?_, HB.out⟩
        unfold sizeP
        rw [HH.out]; rfl
      | false =>
        go_wp2_with fail
        go_loop [9, 40] (fun lv iv => ∃ k : Nat, k ≤ m ∧ iv = .int .i64 (k : Int) ∧ lv = .int .i64 ((lpB names u (ps.take k) : Nat) : Int)) (fun _ iv => m - (intOf iv).toNat)
        case atStart => exact ⟨0, Nat.zero_le _, rfl, rfl⟩
        case round =>
          obtain ⟨k, hk, rfl, rfl⟩ := hrel
          by_cases hlt : k < m
          · have hx : k < ps.length := by rw [← HM.out]; exact hlt
            obtain ⟨bd, rfl, hbd, hcell⟩ := (h'.up HB.out.hid).out.at_ hx
            obtain ⟨x, hxe⟩ : ∃ x, x = ps[k] := ⟨_, rfl⟩
            rw [← hxe] at hcell
            obtain ⟨b, hb⟩ : ∃ b, Lib.hasPrefix u.data.toList x.data.toList = b := ⟨_, rfl⟩
            obtain ⟨e, he⟩ : ∃ e, hasB names (restB u x.size) = e := ⟨_, rfl⟩
            have CX : Hid (∀ W : World, Calls Tryd.prog 32 #[.string u, .string x] W fun e w' => e = .returned (.bool b) ∧ W = w') := fun W => hb ▸ CP.out x W
            obtain ⟨L, hL⟩ : ∃ L, lpB names u (ps.take k) = L := ⟨_, rfl⟩
            have HV : Hid (lpB names u (ps.take (k + 1)) = if (b && e) then max L x.size else L) := by
              unfold Hid; rw [lpB_take hx, ← hxe, hL]; unfold hitB; rw [hb, he]
            have HLu : Hid (L ≤ u.size) := by unfold Hid; rw [← hL]; exact lpB_le ps k (by omega)
            rw [hL]
            cases b with
            | false =>
              have HV2 : Hid (lpB names u (ps.take (k + 1)) = L) := HV.out
              clear hb he hL hxe hx HV
              go_wp2_with (first | (go_at_call 32; (with_reducible refine (CX.out _).mono ?_); rintro e w1 ⟨rfl, rfl⟩) | fail)
              go_round
              case rel => exact ⟨k + 1, by omega, by go_num, by rw [HV2.out]⟩
              case measure => simp [intOf]; omega
            | true =>
              have hsz : x.size ≤ u.size := by
                have h1 : x.data.toList <+: u.data.toList := List.isPrefixOf_iff_prefix.1 hb
                rw [Lib.size_eq, Lib.size_eq]; exact h1.length_le
              have e1 := HE2.out.get (i := x.size) (by omega)
              rw [endB_mem hsz, he] at e1
              have hi3 : (x.size : Int) < (u.size : Int) + 1 := by omega
              cases e with
              | false =>
                have HV2 : Hid (lpB names u (ps.take (k + 1)) = L) := HV.out
                clear hb he hL hxe hx HV
                go_wp2_with (first | (go_at_call 32; (with_reducible refine (CX.out _).mono ?_); rintro e w1 ⟨rfl, rfl⟩) | fail)
                go_round
                case rel => exact ⟨k + 1, by omega, by go_num, by rw [HV2.out]⟩
                case measure => simp [intOf]; omega
              | true =>
                have HV2 : Hid (lpB names u (ps.take (k + 1)) = max L x.size) := HV.out
                clear hb he hL hxe hx HV
                go_wp2_with (first | (go_at_call 32; (with_reducible refine (CX.out _).mono ?_); rintro e w1 ⟨rfl, rfl⟩) | fail)
                go_round
                case rel => exact ⟨k + 1, by omega, by go_num, by rw [HV2.out, show max (L : Int) (x.size : Int) = ((max L x.size : Nat) : Int) by omega]⟩
                case measure => simp [intOf]; omega
          · obtain rfl : k = m := by omega
            obtain ⟨L, hL⟩ : ∃ L, lpB names u ps = L := ⟨_, rfl⟩
            have e2 : ps.take k = ps := List.take_of_length_le (by rw [← HM.out]; exact Nat.le_refl _)
            rw [e2, hL]
            have HLL := khide hL
            clear e2 hL
            by_cases h0 : 0 < L
            · have d0 : decide ((0 : Int) < (L : Int)) = true := decide_eq_true (by omega)
              have HD : Hid (decide (0 < L) = true) := decide_eq_true h0
              clear h0
              go_wp2
              go_ret2
              refine ⟨?_, HB.out⟩
              unfold sizeP
              rw [HH.out, HLL.out]
              simp only [Bool.false_eq_true, if_false]
              rw [HD.out]; try rfl
            · have d0 : decide ((0 : Int) < (L : Int)) = false := decide_eq_false (by omega)
              have HD : Hid (decide (0 < L) = false) := decide_eq_false h0
              clear h0
              go_wp2
              go_ret2
              refine ⟨?_, HB.out⟩
              unfold sizeP
              rw [HH.out, HLL.out]
              simp only [Bool.false_eq_true, if_false]
              rw [HD.out]; try rfl
end Go.Proofs.YtkjcnpckajpogaaDoor
