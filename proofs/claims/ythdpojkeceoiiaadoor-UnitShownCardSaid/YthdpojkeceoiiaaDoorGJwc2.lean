/- Several texts in one, each with its own sentence and conditions. -/
import Derived.Test.YthdpojkeceoiiaaDoorGJwc1
import Derived.Laws.MakeOwn
import Derived.Deep.LoopGhost
import Derived.Test.YthdpojkeceoiiaaDoorGJwc0
import Derived.Laws.StructEq
import Derived.Lib.MinMaxS
import Derived.Deep.RegionHeld3
section
/- Package atom: prefixSize. Conditions: a text that fits. -/
open Go.RowKit
set_option maxRecDepth 100000
namespace Go.Proofs.YthdpojkeceoiiaaDoor
theorem Tryd.infoBool : (Tryd.prog.info? 4).map (fun i => (i.zero, i.size, i.bytes)) = some (some (.bool false), 1, 1) := by kernel_rfl
theorem make_bools (n : Nat) (hn : n ≤ 281474976710656) (w : World) : (Instr.makeSlice 127 (.int .i64 (n : Int)) (.int .i64 (n : Int))).run Tryd.prog w =
    .ok (.slice (some ⟨w.heap.size, 0, none⟩) n n) (w.alloc (.cells (madeCells #[.bool false] n) 4)) := by
  obtain ⟨i0, hi0, hz0, hz1, hz2⟩ := info_parts Tryd.infoBool
  have h := run_make (P := Tryd.prog) w 127 4 i0 (.bool false) Tryd.underlying127 hi0 hz0 .i64 .i64 n n (by omega) (by omega) (by rw [hz2]; omega) (by omega)
  simpa [hz1, Value.cells] using h
/-- Block q holds n flags: flag i is f i. -/
def Bs (W : World) (q n : Nat) (f : Nat → Bool) : Prop := At W q ((List.range n).map fun i => .bool (f i))
theorem made_bools (w : World) (n : Nat) : Bs (w.alloc (.cells (madeCells #[.bool false] n) 4)) w.heap.size n (fun _ => false) := by
  have e : madeCells #[.bool false] n = ((List.range n).map fun _ => Value.bool false).toArray := by
    apply Array.ext
    · simp [size_madeCells]
    · intro i h1 h2
      simp [madeCells, Nat.mod_one]
  rw [e]
  exact at_new0 _ _ _
section
variable {W W' : World} {q n i : Nat} {f : Nat → Bool}
theorem Bs.up (h : Bs W q n f) (hb : Hid (Below W.heap.size W W')) : Bs W' q n f := At.up h hb
theorem Bs.get (h : Bs W q n f) (hi : i < n) : W.cell? ⟨q, i, none⟩ = some (.bool (f i)) := At.ci h (by rw [List.getElem?_map, List.getElem?_range hi]; rfl)
theorem Bs.fz (h : Bs W q n f) (hi : i < n) : W.frozen? ⟨q, i, none⟩ = false := At.fi (v := .bool (f i)) h (by rw [List.getElem?_map, List.getElem?_range hi]; rfl)
theorem Bs.set (h : Bs W q n f) (hi : i < n) : Bs (W.setCell ⟨q, i, none⟩ (.bool true)) q n (fun j => f j || (i == j)) := by
  have h1 := At.put h (i := i) (by simpa using hi) (.bool true)
  unfold Bs
  have e : ((List.range n).map fun i => Value.bool (f i)).set i (.bool true) = (List.range n).map fun j => Value.bool (f j || (i == j)) := by
    apply List.ext_getElem?
    intro k
    by_cases hk : i = k
    · subst hk
      rw [List.getElem?_set_self (by simpa using hi), List.getElem?_map, List.getElem?_range hi]; simp
    · rw [List.getElem?_set_ne hk, List.getElem?_map, List.getElem?_map]
      cases hg : (List.range n)[k]? with
      | none => rfl
      | some x =>
        have hx : x = k := by
          have := List.getElem?_eq_some_iff.1 hg
          obtain ⟨h2, h3⟩ := this
          rw [List.getElem_range] at h3; exact h3.symm
        subst hx
        have : (i == x) = false := beq_eq_false_iff_ne.2 hk
        simp [this]
  rw [← e]; exact h1
theorem Bs.congr {g : Nat → Bool} (h : Bs W q n f) (e : ∀ i, i < n → f i = g i) : Bs W q n g := by
  have e2 : ((List.range n).map fun i => Value.bool (f i)) = (List.range n).map fun i => Value.bool (g i) := by
    apply List.map_congr_left
    intro i hi
    rw [e i (List.mem_range.1 hi)]
  unfold Bs at h ⊢
  rw [← e2]; exact h
end
def sizeP (names ps : List ByteArray) (u : ByteArray) : Nat × Bool := if hasB names u then (0, true) else (lpB names u ps, decide (0 < lpB names u ps))
def RetIB (W : World) (a : Int) (b : Bool) (e : Ending) (w' : World) : Prop := e = .returned (.tuple #[.int .i64 a, .bool b]) ∧ Bel W w'
set_option maxHeartbeats 4000000 in
theorem prefixSize_any {A B : Option Addr} {n c m d : Nat} {names ps : List ByteArray} {u : ByteArray} {w : World} (h : Ss w A names) (hn : n = names.length) (hl : n ≤ 1000000) (h' : Ss w B ps) (hm : m = ps.length) (hl' : m ≤ 1000000) (hu : u.size ≤ 140737488355328) :
    Calls Tryd.prog 58 #[.agg #[.slice A n c, .slice B m d], .string u] w (RetIB w ((sizeP names ps u).1 : Int) (sizeP names ps u).2) := by
  have CS : Hid (∀ (x : ByteArray) (W : World), Calls Tryd.prog 72 #[.string u, .string x] W fun e w' => e = .returned (.bool (Lib.hasSuffix u.data.toList x.data.toList)) ∧ W = w') := fun x W => (Tryd.strings_HasSuffix u x W (by omega)).mono fun e w' ⟨h1, h3⟩ => ⟨h1, h3.symm⟩
  have CP : Hid (∀ (x : ByteArray) (W : World), Calls Tryd.prog 73 #[.string u, .string x] W fun e w' => e = .returned (.bool (Lib.hasPrefix u.data.toList x.data.toList)) ∧ W = w') := fun x W => (Tryd.strings_HasPrefix u x W).mono fun e w' ⟨h1, h3⟩ => ⟨h1, h3.symm⟩
  have HN := khide hn
  have HM := khide hm
  have hmk : ∀ W : World, (Instr.makeSlice 127 (.int .i64 ((u.size : Int) + 1)) (.int .i64 ((u.size : Int) + 1))).run Tryd.prog W = .ok (.slice (some ⟨W.heap.size, 0, none⟩) (u.size + 1) (u.size + 1)) (W.alloc (.cells (madeCells #[.bool false] (u.size + 1)) 4)) := fun W => make_bools (u.size + 1) (by omega) W
  clear hn hm
  obtain ⟨W1, hW1⟩ : ∃ X, X = (w.alloc (.cells #[.slice A n c, .slice B m d] 31)).alloc (.cells (madeCells #[.bool false] (u.size + 1)) 4) := ⟨_, rfl⟩
  have HA : At W1 w.heap.size [.slice A n c, .slice B m d] := by rw [hW1]; exact (at_new0 _ _ _).al _
  have HB : Bel w W1 := by rw [hW1]; exact ((Bel.refl w).al _).al _
  have HE : Bs W1 (w.heap.size + 1) (u.size + 1) (endB (names.take 0) u) := by
    rw [hW1]
    have h2 := made_bools (w.alloc (.cells #[.slice A n c, .slice B m d] 31)) (u.size + 1)
    rw [show (w.alloc (.cells #[.slice A n c, .slice B m d] 31)).heap.size = w.heap.size + 1 by simp] at h2
    exact h2
  have HW := khide hW1
  clear hW1
  have ha_0 := HA.c0; have ha_1 := HA.c1; have ha_l := HA.lt
  go_enter Tryd.func58, Tryd.ntmps58
  go_upto_region 2 with fail
  rw [← HW.out]
  obtain ⟨p, hp⟩ : ∃ p, p = w.heap.size := ⟨_, rfl⟩
  obtain ⟨q, hq⟩ : ∃ p, p = w.heap.size + 1 := ⟨_, rfl⟩
  have HQ : Hid (w.heap.size ≤ q) := by unfold Hid; omega
  have HPQ : Hid (q ≠ p) := by unfold Hid; omega
  rw [← hp] at HA ha_0 ha_1 ha_l
  rw [← hq] at HE
  rw [← hq, ← hp]
  clear HW hmk hp hq
  go_upto_region 3 with fail
  clear ha_0 ha_1 ha_l
  go_loopw [19] (fun iv wr => ∃ k : Nat, k ≤ n ∧ iv = .int .i64 (k : Int) ∧ Hid (Bel w wr) ∧ Hid (At wr p [.slice A n c, .slice B m d]) ∧ Hid (Bs wr q (u.size + 1) (endB (names.take k) u))) (fun iv _ => n - (intOf iv).toNat)
  case atStart => exact ⟨0, Nat.zero_le _, rfl, HB, HA, HE⟩
  case round =>
    clear HB HA HE
    obtain ⟨k, hk, rfl, HB, HA, HE⟩ := hrel
    by_cases hlt : k < n
    · have hx : k < names.length := by rw [← HN.out]; exact hlt
      obtain ⟨ad, rfl, had, hcell⟩ := (h.up HB.out.hid).out.at_ hx
      obtain ⟨x, hxe⟩ : ∃ x, x = names[k] := ⟨_, rfl⟩
      rw [← hxe] at hcell
      obtain ⟨b, hb⟩ : ∃ b, Lib.hasSuffix u.data.toList x.data.toList = b := ⟨_, rfl⟩
      have CX : Hid (∀ W : World, Calls Tryd.prog 72 #[.string u, .string x] W fun e w' => e = .returned (.bool b) ∧ W = w') := fun W => hb ▸ CS.out x W
      have HV : Hid (∀ i, endB (names.take (k + 1)) u i = (endB (names.take k) u i || (b && (u.size - x.size == i)))) := fun i => by rw [endB_take hx, ← hxe, hb]
      cases b with
      | false =>
        have HE2 : Hid (Bs wr q (u.size + 1) (endB (names.take (k + 1)) u)) := HE.out.congr (fun i _ => by rw [HV.out i]; simp)
        clear hb hxe hx HV
        go_wp2_with (first | (go_at_call 72; (with_reducible refine (CX.out _).mono ?_); rintro e w1 ⟨rfl, rfl⟩) | fail)
        go_roundw
        case rel => exact ⟨k + 1, by omega, by go_num, HB, HA, HE2⟩
        case measure => simp [intOf]; omega
      | true =>
        have hsz : x.size ≤ u.size := ((suffix_iff u x).1 hb).1
        obtain ⟨i, hi⟩ : ∃ i, u.size - x.size = i := ⟨_, rfl⟩
        have e1 : (u.size : Int) - (x.size : Int) = (i : Int) := by omega
        have hi2 : i < u.size + 1 := by omega
        have hi3 : (i : Int) < (u.size : Int) + 1 := by omega
        have e0 := HE.out.get hi2
        have e0f := HE.out.fz hi2
        have e0l := HE.out.lt
        have HE2 : Hid (Bs (wr.setCell ⟨q, i, none⟩ (.bool true)) q (u.size + 1) (endB (names.take (k + 1)) u)) := (HE.out.set hi2).congr (fun j _ => by rw [HV.out j, hi]; rfl)
        have HA2 := khide (HA.out.far (i := i) HPQ.out (.bool true))
        have HB2 : Hid (Bel w (wr.setCell ⟨q, i, none⟩ (.bool true))) := Below.setCell HB.out HQ.out _
        clear hb hxe hx HV hi hsz
        go_wp2_with (first | (go_at_call 72; (with_reducible refine (CX.out _).mono ?_); rintro e w1 ⟨rfl, rfl⟩) | fail)
        go_roundw
        case rel => exact ⟨k + 1, by omega, by go_num, HB2, HA2, HE2⟩
        case measure => simp [intOf]; omega
    · obtain rfl : k = n := by omega
      have HE2 : Hid (Bs wr q (u.size + 1) (endB names u)) := by
        have h3 := HE.out
        rwa [List.take_of_length_le (by rw [← HN.out]; exact Nat.le_refl _)] at h3
      clear HE hlt hk
      have e0 := HE2.out.get (i := 0) (by omega)
      have el := HE2.out.lt
      obtain ⟨b, hb⟩ : ∃ b, endB names u 0 = b := ⟨_, rfl⟩
      rw [hb] at e0
      have HH : Hid (hasB names u = b) := by
        unfold Hid; rw [← hb, endB_mem (Nat.zero_le _), restB_zero]
      clear hb
      have ha_0 := HA.out.c0; have ha_1 := HA.out.c1; have ha_l := HA.out.lt
      cases b with
      | true =>
        go_wp2
        go_ret2
        refine ⟨?_, HB.out⟩
        unfold sizeP
        rw [HH.out]; rfl
      | false =>
        go_wp2_with fail
        go_loop [9, 40] (fun lv iv => ∃ k : Nat, k ≤ m ∧ iv = .int .i64 (k : Int) ∧ lv = .int .i64 ((lpB names u (ps.take k) : Nat) : Int)) (fun _ iv => m - (intOf iv).toNat)
        case atStart => exact ⟨0, Nat.zero_le _, rfl, rfl⟩
        case round =>
          obtain ⟨k, hk, rfl, rfl⟩ := hrel
          by_cases hlt : k < m
          · have hx : k < ps.length := by rw [← HM.out]; exact hlt
            obtain ⟨bd, rfl, hbd, hcell⟩ := (h'.up HB.out.hid).out.at_ hx
            obtain ⟨x, hxe⟩ : ∃ x, x = ps[k] := ⟨_, rfl⟩
            rw [← hxe] at hcell
            obtain ⟨b, hb⟩ : ∃ b, Lib.hasPrefix u.data.toList x.data.toList = b := ⟨_, rfl⟩
            obtain ⟨e, he⟩ : ∃ e, hasB names (restB u x.size) = e := ⟨_, rfl⟩
            have CX : Hid (∀ W : World, Calls Tryd.prog 73 #[.string u, .string x] W fun e w' => e = .returned (.bool b) ∧ W = w') := fun W => hb ▸ CP.out x W
            obtain ⟨L, hL⟩ : ∃ L, lpB names u (ps.take k) = L := ⟨_, rfl⟩
            have HV : Hid (lpB names u (ps.take (k + 1)) = if (b && e) then max L x.size else L) := by
              unfold Hid; rw [lpB_take hx, ← hxe, hL]; unfold hitB; rw [hb, he]
            have HLu : Hid (L ≤ u.size) := by unfold Hid; rw [← hL]; exact lpB_le ps k (by omega)
            rw [hL]
            cases b with
            | false =>
              have HV2 : Hid (lpB names u (ps.take (k + 1)) = L) := HV.out
              clear hb he hL hxe hx HV
              go_wp2_with (first | (go_at_call 73; (with_reducible refine (CX.out _).mono ?_); rintro e w1 ⟨rfl, rfl⟩) | fail)
              go_round
              case rel => exact ⟨k + 1, by omega, by go_num, by rw [HV2.out]⟩
              case measure => simp [intOf]; omega
            | true =>
              have hsz : x.size ≤ u.size := by
                have h1 : x.data.toList <+: u.data.toList := List.isPrefixOf_iff_prefix.1 hb
                rw [Lib.size_eq, Lib.size_eq]; exact h1.length_le
              have e1 := HE2.out.get (i := x.size) (by omega)
              rw [endB_mem hsz, he] at e1
              have hi3 : (x.size : Int) < (u.size : Int) + 1 := by omega
              cases e with
              | false =>
                have HV2 : Hid (lpB names u (ps.take (k + 1)) = L) := HV.out
                clear hb he hL hxe hx HV
                go_wp2_with (first | (go_at_call 73; (with_reducible refine (CX.out _).mono ?_); rintro e w1 ⟨rfl, rfl⟩) | fail)
                go_round
                case rel => exact ⟨k + 1, by omega, by go_num, by rw [HV2.out]⟩
                case measure => simp [intOf]; omega
              | true =>
                have HV2 : Hid (lpB names u (ps.take (k + 1)) = max L x.size) := HV.out
                clear hb he hL hxe hx HV
                go_wp2_with (first | (go_at_call 73; (with_reducible refine (CX.out _).mono ?_); rintro e w1 ⟨rfl, rfl⟩) | fail)
                go_round
                case rel => exact ⟨k + 1, by omega, by go_num, by rw [HV2.out, show max (L : Int) (x.size : Int) = ((max L x.size : Nat) : Int) by omega]⟩
                case measure => simp [intOf]; omega
          · obtain rfl : k = m := by omega
            obtain ⟨L, hL⟩ : ∃ L, lpB names u ps = L := ⟨_, rfl⟩
            have e2 : ps.take k = ps := List.take_of_length_le (by rw [← HM.out]; exact Nat.le_refl _)
            rw [e2, hL]
            have HLL := khide hL
            clear e2 hL
            by_cases h0 : 0 < L
            · have d0 : decide ((0 : Int) < (L : Int)) = true := decide_eq_true (by omega)
              have HD : Hid (decide (0 < L) = true) := decide_eq_true h0
              clear h0
              go_wp2
              go_ret2
              refine ⟨?_, HB.out⟩
              unfold sizeP
              rw [HH.out, HLL.out]
              simp only [Bool.false_eq_true, if_false]
              rw [HD.out]; try rfl
            · have d0 : decide ((0 : Int) < (L : Int)) = false := decide_eq_false (by omega)
              have HD : Hid (decide (0 < L) = false) := decide_eq_false h0
              clear h0
              go_wp2
              go_ret2
              refine ⟨?_, HB.out⟩
              unfold sizeP
              rw [HH.out, HLL.out]
              simp only [Bool.false_eq_true, if_false]
              rw [HD.out]; try rfl
end Go.Proofs.YthdpojkeceoiiaaDoor
end

section
/- Package atom: Parse. Conditions: texts and lists that fit. -/
open Go.RowKit
set_option maxRecDepth 100000
namespace Go.Proofs.YthdpojkeceoiiaaDoor
def eB : ByteArray := ⟨#[]⟩
/-- An atom, the words that it takes, and whether there is one. -/
structure PA where
  p : ByteArray
  n : ByteArray
  k : Nat
  t : Nat
  ok : Bool
def noPA : PA := ⟨eB, eB, 0, 0, false⟩
def parseU (names ps : List ByteArray) (k t : Nat) (u : ByteArray) : PA := if (sizeP names ps u).2 then ⟨u.extract 0 (sizeP names ps u).1, restB u (sizeP names ps u).1, k, t + 1, true⟩ else noPA
def parseA (names ps l : List ByteArray) : PA :=
  match l[(leadP l).2]? with
  | none => noPA
  | some u => parseU names ps (leadP l).1 (leadP l).2 u
theorem leadP_le (l : List ByteArray) : (leadP l).2 ≤ l.length ∧ (leadP l).2 ≤ 1 := by
  cases l with
  | nil => exact ⟨Nat.le_refl _, by decide⟩
  | cons s l =>
    by_cases h : powOf s = 0
    · have e : leadP (s :: l) = (1, 0) := if_pos h
      rw [e]; simp
    · have e : leadP (s :: l) = (powOf s, 1) := if_neg h
      rw [e]; simp
theorem sizeP_le (names ps : List ByteArray) (u : ByteArray) : (sizeP names ps u).1 ≤ u.size := by
  unfold sizeP
  split
  · simp
  · have := lpB_le (names := names) (u := u) ps ps.length (Nat.le_refl _)
    rwa [List.take_length] at this
def PRes (W : World) (a : PA) (e : Ending) (w' : World) : Prop := e = .returned (.tuple #[.agg #[.string a.p, .string a.n, .int .i64 (a.k : Int)], .int .i64 (a.t : Int), .bool a.ok]) ∧ Bel W w'
theorem kbelow3 {W w2 : World} {p : Nat} (h : Bel W w2) (hp : W.heap.size ≤ p) (x y z : Value) : Bel W (((w2.setCell ⟨p, 0, none⟩ x).setCell ⟨p, 1, none⟩ y).setCell ⟨p, 2, none⟩ z) :=
  ((Below.setCell h hp _).setCell hp _).setCell hp _
set_option maxHeartbeats 4000000 in
theorem parse_any {A B D : Option Addr} {n c m d j g : Nat} {names ps l : List ByteArray} {w : World} (h : Ss w A names) (hn : n = names.length) (hl : n ≤ 1000000) (h' : Ss w B ps) (hm : m = ps.length) (hl' : m ≤ 1000000) (h2 : Ss w D l) (hj : j = l.length) (hu : ∀ x ∈ l, x.size ≤ 140737488355328) :
    Calls Tryd.prog 42 #[.agg #[.slice A n c, .slice B m d], .slice D j g] w (PRes w (parseA names ps l)) := by
  obtain ⟨pw, hpw⟩ : ∃ x, (leadP l).1 = x := ⟨_, rfl⟩
  obtain ⟨tk, htk⟩ : ∃ x, (leadP l).2 = x := ⟨_, rfl⟩
  have CL : Hid (∀ W, Bel w W → Calls Tryd.prog 57 #[.slice D j g] W (RetII W (pw : Int) (tk : Int))) := fun W hb => by rw [← hpw, ← htk]; exact lead_any (h2.up hb.hid) hj
  have hle := leadP_le l
  rw [htk] at hle
  have HV : Hid (parseA names ps l = match l[tk]? with | none => noPA | some u => parseU names ps pw tk u) := by unfold Hid parseA; rw [hpw, htk]
  obtain ⟨W1, hW1⟩ : ∃ X, X = (w.alloc (.cells #[.slice A n c, .slice B m d] 31)).alloc (.cells #[.string ⟨#[]⟩, .string ⟨#[]⟩, .int .i64 0] 98) := ⟨_, rfl⟩
  have HA : At W1 w.heap.size [.slice A n c, .slice B m d] := by rw [hW1]; exact (at_new0 _ _ _).al _
  have HR : At W1 (w.heap.size + 1) [.string ⟨#[]⟩, .string ⟨#[]⟩, .int .i64 0] := by rw [hW1]; exact at_new1 _ _ _ _
  have HB : Bel w W1 := by rw [hW1]; exact ((Bel.refl w).al _).al _
  have HW := khide hW1
  have HN := khide hn
  have HM := khide hm
  have HJ := khide hj
  clear hW1 hpw htk hn hm
  go_enter Tryd.func42, Tryd.ntmps42
  go_upto_region 1 with fail
  rw [← HW.out]
  obtain ⟨p, hp⟩ : ∃ p, p = w.heap.size := ⟨_, rfl⟩
  obtain ⟨q, hq⟩ : ∃ p, p = w.heap.size + 1 := ⟨_, rfl⟩
  have HQ : Hid (w.heap.size ≤ q) := by unfold Hid; omega
  rw [← hp] at HA
  rw [← hq] at HR
  rw [← hq, ← hp]
  clear HW hp hq
  by_cases he : tk = j
  · have d1 : ((tk : Int) == (j : Int)) = true := by rw [beq_iff_eq]; omega
    have HV2 : Hid (parseA names ps l = noPA) := by unfold Hid; rw [HV.out, List.getElem?_eq_none (by omega)]
    have HE := khide he
    clear he hle hu HV hj
    go_upto_region 2 with (first | (go_at_call 57; (with_reducible refine (CL.out _ HB).mono ?_); rintro e w1 ⟨rfl, hb⟩; (replace HA := HA.up hb.hid); (replace HR := HR.up hb.hid); (replace HB := HB.up hb.hid); clear hb) | fail)
    have hr_0 := HR.c0; have hr_1 := HR.c1; have hr_2 := HR.c2; have hr_l := HR.lt; have hr_f0 := HR.f0; have hr_f1 := HR.f1; have hr_f2 := HR.f2
    go_wp2_with fail
    refine bodyPost_ret (v := .tuple #[.agg #[.string ⟨#[]⟩, .string ⟨#[]⟩, .int .i64 0], .int .i64 0, .bool false]) (by simp [results, Tryd.results42, go_sem, hr_0, hr_1, hr_2]) rfl ⟨?_, ?_⟩
    · rw [HV2.out]; rfl
    · exact kbelow3 HB HQ.out _ _ _
  · have d1 : ((tk : Int) == (j : Int)) = false := by rw [beq_eq_false_iff_ne]; omega
    have hk : tk < l.length := by omega
    obtain ⟨u, hu2⟩ : ∃ u, u = l[tk] := ⟨_, rfl⟩
    have huz : Hid (u.size ≤ 140737488355328) := hu u (by rw [hu2]; exact List.getElem_mem hk)
    obtain ⟨sz, hsz⟩ : ∃ x, (sizeP names ps u).1 = x := ⟨_, rfl⟩
    obtain ⟨ok, hok⟩ : ∃ x, (sizeP names ps u).2 = x := ⟨_, rfl⟩
    have CP : Hid (∀ W, Bel w W → Calls Tryd.prog 58 #[.agg #[.slice A n c, .slice B m d], .string u] W (RetIB W (sz : Int) ok)) := fun W hb => by rw [← hsz, ← hok]; exact prefixSize_any (h.up hb.hid) HN.out hl (h'.up hb.hid) HM.out hl' huz.out
    have hle2 : sz ≤ u.size := by rw [← hsz]; exact sizeP_le names ps u
    have HV2 : Hid (parseA names ps l = if ok then ⟨u.extract 0 sz, restB u sz, pw, tk + 1, true⟩ else noPA) := by
      unfold Hid
      rw [HV.out, List.getElem?_eq_getElem hk, ← hu2]
      show parseU names ps pw tk u = _
      unfold parseU; rw [hsz, hok]
    obtain ⟨ad, rfl, had, hcell⟩ := h2.out.at_ hk
    rw [← hu2] at hcell
    have t1 : (tk : Int) < (j : Int) := by omega
    have t2 : (0 : Int) ≤ (tk : Int) := by omega
    have HT1 : Hid (tk ≤ 1) := hle.2
    have s1 : (sz : Int) ≤ (u.size : Int) := by omega
    have s2 : (0 : Int) ≤ (sz : Int) := by omega
    have hC : Hid (∀ W', Bel w W' → W'.cell? (ad.add tk) = some (.string u)) := fun W' hb => (hb.cell (by rw [yblock_add]; exact had)).trans hcell
    clear hcell had hu2 hu hle HV hj he hk hsz hok
    go_upto_region 4 with (first | (go_at_call 57; (with_reducible refine (CL.out _ HB).mono ?_); rintro e w1 ⟨rfl, hb⟩; (replace HA := HA.up hb.hid); (replace HR := HR.up hb.hid); (replace HB := HB.up hb.hid); clear hb) | fail)
    have hcell := hC.out _ HB
    have ha_0 := HA.c0; have ha_1 := HA.c1; have ha_l := HA.lt
    cases ok with
    | false =>
      go_upto_region 7 with (first | (go_at_call 58; (with_reducible refine (CP.out _ HB).mono ?_); rintro e w2 ⟨rfl, hb⟩; (replace HA := HA.up hb.hid); (replace HR := HR.up hb.hid); (replace HB := HB.up hb.hid); clear hb hcell ha_0 ha_1 ha_l) | fail)
      have hr_0 := HR.c0; have hr_1 := HR.c1; have hr_2 := HR.c2; have hr_l := HR.lt; have hr_f0 := HR.f0; have hr_f1 := HR.f1; have hr_f2 := HR.f2
      go_wp2_with fail
      refine bodyPost_ret (v := .tuple #[.agg #[.string ⟨#[]⟩, .string ⟨#[]⟩, .int .i64 0], .int .i64 0, .bool false]) (by simp [results, Tryd.results42, go_sem, hr_0, hr_1, hr_2]) rfl ⟨?_, kbelow3 HB HQ.out _ _ _⟩
      rw [HV2.out]; rfl
    | true =>
      go_upto_region 8 with (first | (go_at_call 58; (with_reducible refine (CP.out _ HB).mono ?_); rintro e w2 ⟨rfl, hb⟩; (replace HA := HA.up hb.hid); (replace HR := HR.up hb.hid); (replace HB := HB.up hb.hid); clear hb hcell ha_0 ha_1 ha_l) | fail)
      have hr_0 := HR.c0; have hr_1 := HR.c1; have hr_2 := HR.c2; have hr_l := HR.lt; have hr_f0 := HR.f0; have hr_f1 := HR.f1; have hr_f2 := HR.f2
      go_region
      all_goals go_wp2_with fail
      have e9 : wrap64 ((tk : Int) + 1) = (tk : Int) + 1 := by have := HT1.out; unfold wrap64; omega
      all_goals refine bodyPost_ret (v := .tuple #[.agg #[.string (u.extract 0 sz), .string (u.extract sz u.size), .int .i64 (pw : Int)], .int .i64 ((tk : Int) + 1), .bool true]) (by simp [results, Tryd.results42, go_sem, hr_0, hr_1, hr_2, e9]) rfl ⟨?_, (kbelow3 HB HQ.out _ _ _).dr⟩
      all_goals (rw [HV2.out]; rfl)
end Go.Proofs.YthdpojkeceoiiaaDoor
end

section
/- Words: Join. Conditions: a text that fits. -/
open Go.RowKit
set_option maxRecDepth 100000
namespace Go.Proofs.YthdpojkeceoiiaaDoor
/-- The words put together with a hyphen between them. -/
def joinS (xs : List ByteArray) : ByteArray := ⟨(glue 45 (xs.map (·.data.toList))).toArray⟩
def StrR (W : World) (s : ByteArray) (e : Ending) (w' : World) : Prop := e = .returned (.string s) ∧ Hid (Below W.heap.size W w')
theorem plain_of {w : World} {ad : Addr} {v : Value} (h : w.cell? ad = some v) : ∃ b o, ad = ⟨b, o, none⟩ := by
  obtain ⟨b, o, sp⟩ := ad
  cases sp with
  | none => exact ⟨b, o, rfl⟩
  | some k =>
    unfold World.cell? at h
    split at h
    · simp at h
    · cases h
theorem sjoin_any {w : World} {A : Option Addr} {n c : Nat} {xs : List ByteArray} (h : Ss w A xs) (hn : n = xs.length) (hc : n ≤ c) (hN : n ≤ 1000000) (hl : (glue 45 (xs.map (·.data.toList))).length ≤ 140737488355328) :
    Calls Tryd.prog 15 #[.slice A n c, .string ⟨#[45]⟩] w (StrR w (joinS xs)) := by
  subst hn
  cases xs with
  | nil =>
    refine (Tryd.strings_Join_none A c ⟨#[45]⟩ w).mono fun e w' ⟨he, hw⟩ => ⟨by rw [he]; rfl, by rw [hw]; exact Below.refl _ _⟩
  | cons x xs =>
    obtain ⟨ad, rfl, hb, hcell⟩ := h.out (by simp)
    have h0 := hcell 0 x rfl
    obtain ⟨b, o, hbo⟩ := plain_of h0
    rw [show ad.add 0 = ad by simp [Addr.add]] at hbo
    subst hbo
    have hcl : ∀ (j : Nat) y, (x :: xs)[j]? = some y → w.cell? ⟨b, o + j, none⟩ = some (.string y) := fun j y hj => by
      have h1 := hcell j y hj
      have e : (⟨b, o, none⟩ : Addr).add j = ⟨b, o + j, none⟩ := by unfold Addr.add; split <;> simp_all
      rwa [e] at h1
    have c1 := Tryd.strings_Join b o c (x :: xs) ⟨#[45]⟩ w hcl hb (by omega) hc (by rw [show (⟨#[45]⟩ : ByteArray).data.toList = [45] from rfl, join_glue]; exact hl)
    refine c1.mono fun e w' ⟨he, hw⟩ => ⟨?_, hw⟩
    rw [he, show (⟨#[45]⟩ : ByteArray).data.toList = [45] from rfl, join_glue]; rfl
theorem wjoin_any {w : World} {A : Option Addr} {n c : Nat} {xs : List ByteArray} (h : Ss w A xs) (hn : n = xs.length) (hc : n ≤ c) (hN : n ≤ 1000000) (hl : (glue 45 (xs.map (·.data.toList))).length ≤ 140737488355328) :
    Calls Tryd.prog 30 #[.slice A n c] w (StrR w (joinS xs)) := by
  have CJ := yhide (sjoin_any h hn hc hN hl)
  clear h hn hc hN hl
  obtain ⟨t, ht⟩ : ∃ t, t = joinS xs := ⟨_, rfl⟩
  rw [← ht] at CJ ⊢
  clear ht
  go_enter Tryd.func30, Tryd.ntmps30
  go_wp2_with (first | (go_at_call 15; (with_reducible refine CJ.out.mono ?_); rintro e w1 ⟨rfl, hbk⟩) | fail)
  go_ret
  exact ⟨rfl, hbk⟩
end Go.Proofs.YthdpojkeceoiiaaDoor
end

section
/- Package atom: Show. Conditions: texts that fit. -/
open Go.RowKit
set_option maxRecDepth 100000
namespace Go.Proofs.YthdpojkeceoiiaaDoor
def showB (p n : ByteArray) (k : Int) : ByteArray := if k < 1 ∨ 15 < k then eB else if k = 1 then p ++ n else joinS [pwB k.toNat, p ++ n]
theorem lit_ssk (W : World) (xs : List ByteArray) (t : TypeId) : Ss (W.alloc (.cells (xs.map Value.string).toArray t)) (some ⟨W.heap.size, 0, none⟩) xs := fun _ =>
  ⟨⟨W.heap.size, 0, none⟩, rfl, (at_new0 W (xs.map Value.string) t).lt, fun j x hj => by
    rw [show (⟨W.heap.size, 0, none⟩ : Addr).add j = ⟨W.heap.size, j, none⟩ by unfold Addr.add; split <;> simp_all]
    exact (at_new0 W (xs.map Value.string) t).ci (by rw [List.getElem?_map, hj]; rfl)⟩
theorem glue_two (a b : ByteArray) : (glue 45 ([a, b].map (·.data.toList))).length = a.size + b.size + 1 := by
  simp only [List.map_cons, List.map_nil, glue, List.length_append, List.length_cons, Lib.size_eq]; omega
set_option maxHeartbeats 4000000 in
theorem show_any {p n : ByteArray} {k : Int} (hs : p.size + n.size ≤ 140737488355000) (w : World) : Calls Tryd.prog 45 #[.agg #[.string p, .string n, .int .i64 k]] w (StrR w (showB p n k)) := by
  have hs1 : ¬ 9223372036854775807 < p.size + n.size := by omega
  have hs2 : p.size + n.size ≤ 9223372036854775807 := by omega
  obtain ⟨u, hu⟩ : ∃ u, u = p ++ n := ⟨_, rfl⟩
  have huz : u.size = p.size + n.size := by rw [hu, ByteArray.size_append]
  obtain ⟨W1, hW1⟩ : ∃ X, X = w.alloc (.cells #[.string p, .string n, .int .i64 k] 98) := ⟨_, rfl⟩
  have HA : At W1 w.heap.size [.string p, .string n, .int .i64 k] := by rw [hW1]; exact at_new0 _ _ _
  have HB : Bel w W1 := by rw [hW1]; exact (Bel.refl w).al _
  have HW := khide hW1
  have ha_0 := HA.c0; have ha_1 := HA.c1; have ha_2 := HA.c2; have ha_l := HA.lt
  by_cases h1 : k < 1
  · have d1 : decide (k < 1) = true := decide_eq_true h1
    have HV : Hid (showB p n k = eB) := if_pos (.inl h1)
    clear h1 hW1 hu huz
    go_enter Tryd.func45, Tryd.ntmps45
    go_upto_region 1 with fail
    rw [← HW.out]
    go_wp2
    go_ret
    exact ⟨by rw [HV.out]; rfl, HB⟩
  by_cases h2 : 15 < k
  · have d1 : decide (k < 1) = false := decide_eq_false h1
    have d2 : decide (15 < k) = true := decide_eq_true h2
    have HV : Hid (showB p n k = eB) := if_pos (.inr h2)
    clear h1 h2 hW1 hu huz
    go_enter Tryd.func45, Tryd.ntmps45
    go_upto_region 1 with fail
    rw [← HW.out]
    go_wp2
    go_ret
    exact ⟨by rw [HV.out]; rfl, HB⟩
  have d1 : decide (k < 1) = false := decide_eq_false h1
  have d2 : decide (15 < k) = false := decide_eq_false h2
  by_cases h3 : k = 1
  · have d3 : (k == 1) = true := by rw [h3]; rfl
    have HV : Hid (showB p n k = p ++ n) := by unfold Hid showB; rw [if_neg (by omega), if_pos h3]
    clear h1 h2 h3 hW1 hu huz
    go_enter Tryd.func45, Tryd.ntmps45
    go_upto_region 1 with fail
    rw [← HW.out]
    go_wp2
    go_ret
    exact ⟨by rw [HV.out]; rfl, HB⟩
  · obtain ⟨j, rfl⟩ : ∃ j : Nat, k = (j : Int) := ⟨k.toNat, by omega⟩
    have d3 : ((j : Int) == 1) = false := beq_eq_false_iff_ne.2 h3
    have hj2 : 2 ≤ j := by omega
    have hj16 : j < 16 := by omega
    obtain ⟨t, ht⟩ : ∃ t, pwB j = t := ⟨_, rfl⟩
    have CW : Hid (∀ W : World, Calls Tryd.prog 62 #[.int .i64 (j : Int)] W fun e w' => e = .returned (.string t) ∧ W = w') := fun W => ht ▸ powerWord_any hj2 hj16 W
    have htz : t.size ≤ 6 := by rw [← ht]; exact pwB_size j hj16 hj2
    have HV : Hid (showB p n (j : Int) = joinS [t, u]) := by
      unfold Hid showB
      rw [if_neg (by omega), if_neg h3, Int.toNat_natCast, ht, hu]
    have CJ : Hid (∀ W : World, Calls Tryd.prog 30 #[.slice (some ⟨W.heap.size, 0, none⟩) 2 2] (W.alloc (.cells #[.string t, .string u] 9)) (StrR (W.alloc (.cells #[.string t, .string u] 9)) (joinS [t, u]))) := fun W =>
      wjoin_any (lit_ssk W [t, u] 9) rfl (by omega) (by omega) (by rw [glue_two]; omega)
    have huv := khide hu
    clear h1 h2 h3 hW1 ht huz hj2 hj16 htz
    go_enter Tryd.func45, Tryd.ntmps45
    go_upto_region 1 with fail
    rw [← HW.out]
    go_upto_region 4 with fail
    rw [← hu]
    clear hu
    go_wp2_with (first | (go_at_call 62; (with_reducible refine (CW.out _).mono ?_); rintro e w1 ⟨rfl, rfl⟩) | (go_at_call 30; (with_reducible refine (CJ.out _).mono ?_); rintro e w2 ⟨rfl, hb⟩) | fail)
    go_ret
    exact ⟨by rw [HV.out]; rfl, (HB.al _).up hb⟩
end Go.Proofs.YthdpojkeceoiiaaDoor
end

section
/- '==' on atoms. No conditions. -/
open Go.RowKit
set_option maxRecDepth 100000
namespace Go.Proofs.YthdpojkeceoiiaaDoor
def atV (p n : ByteArray) (k : Int) : Value := .agg #[.string p, .string n, .int .i64 k]
def eqA (p n : ByteArray) (k : Int) (p' n' : ByteArray) (k' : Int) : Bool := decide (p = p' ∧ n = n' ∧ k = k')
theorem beq_dec (a b : ByteArray) : (a.toList == b.toList) = decide (a = b) := by
  by_cases h : a = b
  · subst h; simp
  · rw [str_ne h, decide_eq_false h]
theorem eqA_beq (p n : ByteArray) (k : Int) (p' n' : ByteArray) (k' : Int) : eqA p n k p' n' k' = ((p.toList == p'.toList) && ((n.toList == n'.toList) && (k == k'))) := by
  unfold eqA
  rw [beq_dec, beq_dec, Bool.eq_iff_iff]; simp
theorem aeq_in (w : World) (p n : ByteArray) (k : Int) (p' n' : ByteArray) (k' : Int) : (Op.equalIn 10000 98 (.agg #[.string p, .string n, .int .i64 k]) (.agg #[.string p', .string n', .int .i64 k'])).run Tryd.prog w = .ok (eqA p n k p' n' k') w := by
  rw [eqA_beq, run_equalIn_agg w 9999 _ _ _ (by kernel_rfl) (by kernel_rfl)]
  have hf : (Tryd.prog.fieldsOf 98).toList.map (fun f => (f.name, f.type, f.offset)) = [("Prefix", 9, 0), ("Name", 9, 1), ("Power", 3, 2)] := by kernel_rfl
  obtain ⟨fs, hfs⟩ : ∃ fs, (Tryd.prog.fieldsOf 98).toList = fs := ⟨_, rfl⟩
  rw [hfs] at hf ⊢
  match fs, hf with
  | [f0, f1, f2], hf =>
    simp at hf
    obtain ⟨⟨a0, b0, c0⟩, ⟨a1, b1, c1⟩, a2, b2, c2⟩ := hf
    simp [Op.eqFields, a0, a1, a2, b0, b1, b2, c0, c1, c2, part, isAgg, run_underlying Tryd.underlying9, run_underlying Tryd.underlying3, run_equalIn_string _ _ _ _ _ Tryd.underlying9, run_equalIn_int _ _ _ _ _ _ _ Tryd.underlying3, Result.andThen]
    by_cases h1 : p.toList = p'.toList <;> by_cases h2 : n.toList = n'.toList <;> by_cases h3 : k = k' <;> simp [h1, h2, h3]
theorem aeq (w : World) (p n : ByteArray) (k : Int) (p' n' : ByteArray) (k' : Int) : (binOp .eql 98 (.agg #[.string p, .string n, .int .i64 k]) (.agg #[.string p', .string n', .int .i64 k'])).run Tryd.prog w = .ok (.bool (eqA p n k p' n' k')) w := by
  rw [run_eql_struct, aeq_in]; rfl
theorem aneq (w : World) (p n : ByteArray) (k : Int) (p' n' : ByteArray) (k' : Int) : (binOp .neq 98 (.agg #[.string p, .string n, .int .i64 k]) (.agg #[.string p', .string n', .int .i64 k'])).run Tryd.prog w = .ok (.bool (!(eqA p n k p' n' k'))) w := by
  rw [run_neq_struct, aeq_in]; rfl
theorem req_in (w : World) (p n : ByteArray) (k : Int) (p' n' : ByteArray) (k' : Int) : (Op.equalIn 10000 85 (.agg #[.string p, .string n, .int .i64 k]) (.agg #[.string p', .string n', .int .i64 k'])).run Tryd.prog w = .ok (eqA p n k p' n' k') w := by
  rw [eqA_beq, run_equalIn_agg w 9999 _ _ _ (by kernel_rfl) (by kernel_rfl)]
  have hf : (Tryd.prog.fieldsOf 85).toList.map (fun f => (f.name, f.type, f.offset)) = [("Prefix", 9, 0), ("Name", 9, 1), ("Power", 3, 2)] := by kernel_rfl
  obtain ⟨fs, hfs⟩ : ∃ fs, (Tryd.prog.fieldsOf 85).toList = fs := ⟨_, rfl⟩
  rw [hfs] at hf ⊢
  match fs, hf with
  | [f0, f1, f2], hf =>
    simp at hf
    obtain ⟨⟨a0, b0, c0⟩, ⟨a1, b1, c1⟩, a2, b2, c2⟩ := hf
    simp [Op.eqFields, a0, a1, a2, b0, b1, b2, c0, c1, c2, part, isAgg, run_underlying Tryd.underlying9, run_underlying Tryd.underlying3, run_equalIn_string _ _ _ _ _ Tryd.underlying9, run_equalIn_int _ _ _ _ _ _ _ Tryd.underlying3, Result.andThen]
    by_cases h1 : p.toList = p'.toList <;> by_cases h2 : n.toList = n'.toList <;> by_cases h3 : k = k' <;> simp [h1, h2, h3]
theorem req (w : World) (p n : ByteArray) (k : Int) (p' n' : ByteArray) (k' : Int) : (binOp .eql 85 (.agg #[.string p, .string n, .int .i64 k]) (.agg #[.string p', .string n', .int .i64 k'])).run Tryd.prog w = .ok (.bool (eqA p n k p' n' k')) w := by
  rw [run_eql_struct, req_in]; rfl
theorem rneq (w : World) (p n : ByteArray) (k : Int) (p' n' : ByteArray) (k' : Int) : (binOp .neq 85 (.agg #[.string p, .string n, .int .i64 k]) (.agg #[.string p', .string n', .int .i64 k'])).run Tryd.prog w = .ok (.bool (!(eqA p n k p' n' k'))) w := by
  rw [run_neq_struct, req_in]; rfl
end Go.Proofs.YthdpojkeceoiiaaDoor
end

section
/- The law's own some and awake. No conditions. -/
open Go.RowKit
set_option maxRecDepth 100000
namespace Go.Proofs.YthdpojkeceoiiaaDoor
def meB : ByteArray := ⟨#[109, 101, 116, 101, 114]⟩
def kiloB : ByteArray := ⟨#[107, 105, 108, 111]⟩
def someN : List ByteArray := [meB, ⟨#[103, 114, 97, 109]⟩, ⟨#[108, 111, 103, 114, 97, 109]⟩]
def someP : List ByteArray := [⟨#[107, 105]⟩, kiloB, ⟨#[109, 105, 108, 108, 105]⟩]
def SomeR (W : World) (e : Ending) (w' : World) : Prop := ∃ A B, e = .returned (.agg #[.slice A 3 3, .slice B 3 3]) ∧ Ss w' A someN ∧ Ss w' B someP ∧ Bel W w'
theorem ss_at {W : World} {q : Nat} {xs : List ByteArray} (h : At W q (xs.map Value.string)) : Ss W (some ⟨q, 0, none⟩) xs := fun _ =>
  ⟨⟨q, 0, none⟩, rfl, h.lt, fun j x hj => by
    rw [show (⟨q, 0, none⟩ : Addr).add j = ⟨q, j, none⟩ by unfold Addr.add; split <;> simp_all]
    exact h.ci (by rw [List.getElem?_map, hj]; rfl)⟩
def PResX (W : World) (p n : ByteArray) (k t : Int) (ok : Bool) (e : Ending) (w' : World) : Prop := e = .returned (.tuple #[.agg #[.string p, .string n, .int .i64 k], .int .i64 t, .bool ok]) ∧ Bel W w'
theorem parse_some {A B D : Option Addr} {j g : Nat} {xs : List ByteArray} {W : World} {p n : ByteArray} {k t : Nat} {ok : Bool} (h : Ss W A someN) (h' : Ss W B someP) (h2 : Ss W D xs) (hj : j = xs.length) (hu : ∀ x ∈ xs, x.size ≤ 140737488355328)
    (ha : (parseA someN someP xs).p = p ∧ (parseA someN someP xs).n = n ∧ (parseA someN someP xs).k = k ∧ (parseA someN someP xs).t = t ∧ (parseA someN someP xs).ok = ok) :
    Calls Tryd.prog 42 #[.agg #[.slice A 3 3, .slice B 3 3], .slice D j g] W (PResX W p n (k : Int) (t : Int) ok) := by
  obtain ⟨h1, h3, h4, h5, h6⟩ := ha
  rw [← h1, ← h3, ← h4, ← h5, ← h6]
  exact parse_any h rfl (by decide) h' rfl (by decide) h2 hj hu
theorem some_sizes : (∀ x ∈ someN, x.size ≤ 2000000) ∧ ∀ x ∈ someP, x.size ≤ 2000000 := by decide +kernel
theorem show_lit {p n s : ByteArray} {k : Int} (hs : p.size + n.size ≤ 140737488355000) (h : showB p n k = s) (w : World) : Calls Tryd.prog 45 #[.agg #[.string p, .string n, .int .i64 k]] w (StrR w s) := h ▸ show_any hs w
end Go.Proofs.YthdpojkeceoiiaaDoor
end

section
/- The order of atoms; AtomOrder's walk. No conditions. -/
open Go.RowKit
set_option maxRecDepth 100000
namespace Go.Proofs.YthdpojkeceoiiaaDoor
theorem ltS_iff (a b : ByteArray) : ltS a b = true ↔ a.data.toList < b.data.toList := by
  unfold ltS; rw [bytesLess_eq, Lib.toList_data, Lib.toList_data]; simp
theorem ltS_irr (a : ByteArray) : ltS a a = false := by
  rw [Bool.eq_false_iff]; intro h; exact List.lt_irrefl _ ((ltS_iff a a).1 h)
theorem ltS_tr {a b c : ByteArray} (h : ltS a b = true) (h' : ltS b c = true) : ltS a c = true := (ltS_iff a c).2 (List.lt_trans ((ltS_iff a b).1 h) ((ltS_iff b c).1 h'))
theorem ltS_tri {a b : ByteArray} (h : ltS a b = false) (h' : ltS b a = false) : a = b := by
  rw [Bool.eq_false_iff] at h h'
  have h1 : ¬ a.data.toList < b.data.toList := fun e => h ((ltS_iff a b).2 e)
  have h2 : ¬ b.data.toList < a.data.toList := fun e => h' ((ltS_iff b a).2 e)
  exact ByteArray.ext (Array.ext' (List.le_antisymm h2 h1))
theorem ltS_as {a b : ByteArray} (h : ltS a b = true) : ltS b a = false := by
  rw [Bool.eq_false_iff]; intro h'
  have := ltS_tr h h'
  rw [ltS_irr] at this; cases this
theorem cmpS_cases (a b : ByteArray) : (ltS a b = true ∧ cmpS a b = -1) ∨ (a = b ∧ cmpS a b = 0) ∨ (ltS b a = true ∧ cmpS a b = 1) := by
  unfold cmpS
  cases h : ltS a b with
  | true => exact .inl ⟨rfl, rfl⟩
  | false =>
    by_cases e : a = b
    · subst e; exact .inr (.inl ⟨rfl, by simp⟩)
    · refine .inr (.inr ⟨?_, ?_⟩)
      · cases h' : ltS b a with
        | true => rfl
        | false => exact absurd (ltS_tri h h') e
      · rw [str_ne e]; rfl
theorem cmpI_cases (a b : Int) : (a < b ∧ Lib.compareInt a b = -1) ∨ (a = b ∧ Lib.compareInt a b = 0) ∨ (b < a ∧ Lib.compareInt a b = 1) := by
  unfold Lib.compareInt
  rcases Int.lt_trichotomy a b with h | h | h
  · exact .inl ⟨h, by rw [if_pos h]⟩
  · subst h; exact .inr (.inl ⟨rfl, by simp⟩)
  · exact .inr (.inr ⟨h, by rw [if_neg (by omega)]; simp; omega⟩)
/-- What Less says. -/
def LtA (p n : ByteArray) (k : Int) (p' n' : ByteArray) (k' : Int) : Prop := ltS n n' = true ∨ (n = n' ∧ (ltS p p' = true ∨ (p = p' ∧ k < k')))
theorem lessB_iff (p n : ByteArray) (k : Int) (p' n' : ByteArray) (k' : Int) : lessB p n k p' n' k' = true ↔ LtA p n k p' n' k' := by
  unfold lessB LtA or3
  rw [decide_eq_true_eq]
  rcases cmpS_cases n n' with ⟨a, e⟩ | ⟨a, e⟩ | ⟨a, e⟩
  · rw [e]; simp [a]
  · subst a
    rw [e]
    simp only [ltS_irr]
    rcases cmpS_cases p p' with ⟨a, e⟩ | ⟨a, e⟩ | ⟨a, e⟩
    · rw [e]; simp [a]
    · subst a
      rw [e]
      simp only [ltS_irr]
      rcases cmpI_cases k k' with ⟨a, e⟩ | ⟨a, e⟩ | ⟨a, e⟩
      · rw [e]; simp [a]
      · rw [e]; simp [a]
      · rw [e]; simp; omega
    · rw [e]
      have h1 := ltS_as a
      have h2 : p ≠ p' := by rintro rfl; rw [ltS_irr] at a; cases a
      simp [h1, h2]
  · rw [e]
    have h1 := ltS_as a
    have h2 : n ≠ n' := by rintro rfl; rw [ltS_irr] at a; cases a
    simp [h1, h2]
section
variable {p1 n1 p2 n2 p3 n3 : ByteArray} {k1 k2 k3 : Int}
theorem lessB_irr : lessB p1 n1 k1 p1 n1 k1 = false := by
  rw [Bool.eq_false_iff]; intro h
  rcases (lessB_iff _ _ _ _ _ _).1 h with h | ⟨_, h | ⟨_, h⟩⟩
  · rw [ltS_irr] at h; cases h
  · rw [ltS_irr] at h; cases h
  · omega
theorem lessB_tr (h : lessB p1 n1 k1 p2 n2 k2 = true) (h' : lessB p2 n2 k2 p3 n3 k3 = true) : lessB p1 n1 k1 p3 n3 k3 = true := by
  rw [lessB_iff] at h h' ⊢
  rcases h with h | ⟨rfl, h⟩
  · rcases h' with h' | ⟨rfl, h'⟩
    · exact .inl (ltS_tr h h')
    · exact .inl h
  · rcases h' with h' | ⟨rfl, h'⟩
    · exact .inl h'
    · refine .inr ⟨rfl, ?_⟩
      rcases h with h | ⟨rfl, h⟩
      · rcases h' with h' | ⟨rfl, h'⟩
        · exact .inl (ltS_tr h h')
        · exact .inl h
      · rcases h' with h' | ⟨rfl, h'⟩
        · exact .inl h'
        · exact .inr ⟨rfl, by omega⟩
theorem lessB_tri (h : eqA p1 n1 k1 p2 n2 k2 = false) : (lessB p1 n1 k1 p2 n2 k2 == lessB p2 n2 k2 p1 n1 k1) = false := by
  have hne : ¬ (p1 = p2 ∧ n1 = n2 ∧ k1 = k2) := of_decide_eq_false h
  cases h1 : lessB p1 n1 k1 p2 n2 k2 <;> cases h2 : lessB p2 n2 k2 p1 n1 k1
  · exfalso
    rw [Bool.eq_false_iff] at h1 h2
    rw [ne_eq, lessB_iff] at h1 h2
    unfold LtA at h1 h2
    simp only [not_or, not_and] at h1 h2
    have e1 : n1 = n2 := ltS_tri (by simpa using h1.1) (by simpa using h2.1)
    have e2 : p1 = p2 := ltS_tri (by simpa using (h1.2 e1).1) (by simpa using (h2.2 e1.symm).1)
    have a := (h1.2 e1).2 e2
    have b := (h2.2 e1.symm).2 e2.symm
    exact hne ⟨e2, e1, by omega⟩
  · rfl
  · rfl
  · exfalso
    have := lessB_tr h1 h2
    rw [lessB_irr] at this; cases this
theorem lessB_eq (h : eqA p1 n1 k1 p2 n2 k2 = true) : lessB p1 n1 k1 p2 n2 k2 = false := by
  obtain ⟨rfl, rfl, rfl⟩ := of_decide_eq_true h
  exact lessB_irr
end
end Go.Proofs.YthdpojkeceoiiaaDoor
end
