/- Several texts in one, each with its own sentence and conditions. -/
import Derived.Test.YthdpojkeceoiiaaGreatDoorGOmc1
import Derived.Maps.OwnSet
import Derived.Maps.OwnOps
import Derived.StringKeys
import Derived.Laws.MakeOwn
import Derived.Deep.LoopGhost
import Derived.Test.YthdpojkeceoiiaaGreatDoorGOmc0
section
/- The document's own GoodWord, figures, Number. Conditions: at most 2000000 bytes. -/
open Go.RowKit
set_option maxRecDepth 100000
namespace Go.Proofs.YthdpojkeceoiiaaGreatDoor
theorem wdig_bool (c : UInt8) : wdig c = !(decide ((c.toNat : Int) < 48) || decide ((57 : Int) < (c.toNat : Int))) := by
  unfold wdig
  rw [Bool.eq_iff_iff]
  simp only [u8le]
  simp; omega
theorem wchar_bool (c : UInt8) : wchar c = !((decide ((c.toNat : Int) < 97) || decide ((122 : Int) < (c.toNat : Int))) && (decide ((c.toNat : Int) < 48) || decide ((57 : Int) < (c.toNat : Int)))) := by
  unfold wchar wdig
  rw [Bool.eq_iff_iff]
  simp only [u8le]
  simp; omega
theorem all_step {p : UInt8 → Bool} {s : ByteArray} {k : Nat} {b : Bool} (h : k < s.size) (hall : (s.data.toList.take k).all p = true) (hb : p s[k] = b) : (s.data.toList.take (k + 1)).all p = b := by
  rw [all_take h, hall, hb]; rfl
set_option maxHeartbeats 2000000 in
theorem rgood_any {s : ByteArray} (hs : s.size ≤ 2000000) (w : World) : Calls Tryz.prog 68 #[.string s] w fun e w' => e = .returned (.bool (goodW s.data.toList)) ∧ w = w' := by
  go_enter Tryz.func68, Tryz.ntmps68
  go_wp2
  go_loop [3] (fun iv => ∃ k : Nat, k ≤ s.size ∧ iv = .int .i64 (k : Int) ∧ Hid ((s.data.toList.take k).all wchar = true)) (fun iv => s.size - (intOf iv).toNat)
  case atStart => exact ⟨0, Nat.zero_le _, rfl, rfl⟩
  case round =>
    obtain ⟨k, hk, rfl, hall⟩ := hrel
    by_cases hlt : k < s.size
    · have HW := yhide (wchar_bool s[k])
      obtain ⟨b1, d1⟩ : ∃ b, decide ((s[k].toNat : Int) < 97) = b := ⟨_, rfl⟩
      obtain ⟨b2, d2⟩ : ∃ b, decide ((122 : Int) < (s[k].toNat : Int)) = b := ⟨_, rfl⟩
      obtain ⟨b3, d3⟩ : ∃ b, decide ((s[k].toNat : Int) < 48) = b := ⟨_, rfl⟩
      obtain ⟨b4, d4⟩ : ∃ b, decide ((57 : Int) < (s[k].toNat : Int)) = b := ⟨_, rfl⟩
      rw [d1, d2, d3, d4] at HW
      cases b1 <;> cases b2 <;> cases b3 <;> cases b4
      all_goals first
        | (exfalso; simp at d1 d2 d3 d4; omega)
        | (have HA : Hid (wchar s[k] = true) := HW.out
           go_wp2
           go_round
           case rel => exact ⟨k + 1, by omega, by go_num, all_step hlt hall.out HA.out⟩
           case measure => simp [intOf]; omega)
        | (have HA : Hid (wchar s[k] = false) := HW.out
           go_wp2
           go_ret
           exact ⟨ybool (by unfold goodW; rw [all_false hlt HA.out]; simp), rfl⟩)
        | fail "no way"
    · obtain rfl : k = s.size := by omega
      have HAL : Hid (s.data.toList.all wchar = true) := by
        have h3 := hall.out
        rwa [List.take_of_length_le (by rw [Lib.size_eq]; exact Nat.le_refl _)] at h3
      have HG : Hid (goodW s.data.toList = (decide (1 ≤ s.size) && decide (s.size ≤ 20))) := by
        unfold Hid goodW; rw [HAL.out, Bool.and_true, Lib.size_eq]
      clear hall hk hlt
      by_cases h1 : 1 ≤ s.size
      · by_cases h2 : s.size ≤ 20
        · have d1 : decide ((1 : Int) ≤ (s.size : Int)) = true := decide_eq_true (by omega)
          have d2 : decide ((s.size : Int) ≤ 20) = true := decide_eq_true (by omega)
          rw [decide_eq_true h1, decide_eq_true h2] at HG
          clear h2
          go_wp2
          go_ret
          exact ⟨ybool HG.out.symm, rfl⟩
        · have d1 : decide ((1 : Int) ≤ (s.size : Int)) = true := decide_eq_true (by omega)
          have d2 : decide ((s.size : Int) ≤ 20) = false := decide_eq_false (by omega)
          rw [decide_eq_true h1, decide_eq_false h2] at HG
          clear h2
          go_wp2
          go_ret
          exact ⟨ybool HG.out.symm, rfl⟩
      · have d1 : decide ((1 : Int) ≤ (s.size : Int)) = false := decide_eq_false (by omega)
        rw [decide_eq_false h1] at HG
        clear h1
        go_wp2
        go_ret
        exact ⟨ybool HG.out.symm, rfl⟩
def figW (l : List UInt8) : Bool := !l.isEmpty && l.all wdig
theorem figures_any {s : ByteArray} (hs : s.size ≤ 2000000) (w : World) : Calls Tryz.prog 97 #[.string s] w fun e w' => e = .returned (.bool (figW s.data.toList)) ∧ w = w' := by
  obtain ⟨b0, hb0⟩ : ∃ b, s.toList.isEmpty = b := ⟨_, rfl⟩
  have HE : Hid (s.data.toList.isEmpty = b0) := by rw [← hb0, Lib.toList_data]; rfl
  have hz : b0 = true → s.toList = [] := fun h => by rw [h] at hb0; exact List.isEmpty_iff.1 hb0
  have hne : b0 = false → s.toList ≠ [] := fun h e => by rw [h, e] at hb0; cases hb0
  have HZ := yhide hz
  have HNE := yhide hne
  clear hz hne
  go_enter Tryz.func97, Tryz.ntmps97
  go_wp2
  go_loop [3] (fun iv => ∃ k : Nat, k ≤ s.size ∧ iv = .int .i64 (k : Int) ∧ Hid ((s.data.toList.take k).all wdig = true)) (fun iv => s.size - (intOf iv).toNat)
  case atStart => exact ⟨0, Nat.zero_le _, rfl, rfl⟩
  case round =>
    obtain ⟨k, hk, rfl, hall⟩ := hrel
    by_cases hlt : k < s.size
    · have HW := yhide (wdig_bool s[k])
      obtain ⟨b3, d3⟩ : ∃ b, decide ((s[k].toNat : Int) < 48) = b := ⟨_, rfl⟩
      obtain ⟨b4, d4⟩ : ∃ b, decide ((57 : Int) < (s[k].toNat : Int)) = b := ⟨_, rfl⟩
      rw [d3, d4] at HW
      cases b3 <;> cases b4
      all_goals first
        | (exfalso; simp at d3 d4; omega)
        | (have HA : Hid (wdig s[k] = true) := HW.out
           go_wp2
           go_round
           case rel => exact ⟨k + 1, by omega, by go_num, all_step hlt hall.out HA.out⟩
           case measure => simp [intOf]; omega)
        | (have HA : Hid (wdig s[k] = false) := HW.out
           go_wp2
           go_ret
           exact ⟨ybool (by unfold figW; rw [all_false hlt HA.out]; simp), rfl⟩)
        | fail "no way"
    · obtain rfl : k = s.size := by omega
      have HAL : Hid (s.data.toList.all wdig = true) := by
        have h3 := hall.out
        rwa [List.take_of_length_le (by rw [Lib.size_eq]; exact Nat.le_refl _)] at h3
      cases b0
      · go_wp2
        go_ret
        exact ⟨ybool (by unfold figW; rw [HAL.out, HE.out]; rfl), rfl⟩
      · have hz0 := HZ.out rfl
        go_wp2
        go_ret
        exact ⟨ybool (by unfold figW; rw [HE.out]; rfl), rfl⟩
end Go.Proofs.YthdpojkeceoiiaaGreatDoor
end

section
/- Package atom: powerWord, leadingPower. Conditions: a power from 2 to 15. -/
open Go.RowKit
set_option maxRecDepth 100000
namespace Go.Proofs.YthdpojkeceoiiaaGreatDoor
theorem khide {p : Prop} (h : p) : Hid p := h
theorem numB_size (n : Nat) : (numB n).size ≤ 2 := by unfold numB; split <;> exact of_decide_eq_true rfl
theorem powerWord_any {n : Nat} (h2 : 2 ≤ n) (h15 : n < 16) (w : World) : Calls Tryz.prog 94 #[.int .i64 (n : Int)] w fun e w' => e = .returned (.string (pwB n)) ∧ w = w' := by
  by_cases e2 : n = 2
  · subst e2
    go_enter Tryz.func94, Tryz.ntmps94
    go_wp2
    go_ret
    exact ⟨rfl, rfl⟩
  by_cases e3 : n = 3
  · subst e3
    go_enter Tryz.func94, Tryz.ntmps94
    go_wp2
    go_ret
    exact ⟨rfl, rfl⟩
  · have d2 : ((n : Int) == 2) = false := by rw [beq_eq_false_iff_ne]; omega
    have d3 : ((n : Int) == 3) = false := by rw [beq_eq_false_iff_ne]; omega
    obtain ⟨t, ht⟩ : ∃ t, t = numB n := ⟨_, rfl⟩
    have CI : Hid (∀ W : World, Calls Tryz.prog 134 #[.int .i64 (n : Int)] W fun e w' => e = .returned (.string t) ∧ W = w') := fun W => (Tryz.strconv_Itoa_small n (by omega) W).mono fun e w' ⟨h1, h3⟩ => ⟨by rw [h1, decDigits_num (by omega), ht], h3.symm⟩
    have hs : t.size ≤ 2 := by rw [ht]; exact numB_size n
    have HV : Hid (pwB n = powB ++ t) := by unfold Hid pwB; rw [if_neg e2, if_neg e3, ht]
    clear ht e2 e3 h2 h15
    go_enter Tryz.func94, Tryz.ntmps94
    go_wp2_with (first | (go_at_call 134; (with_reducible refine (CI.out _).mono ?_); rintro e w1 ⟨rfl, rfl⟩) | fail)
    go_ret
    exact ⟨by rw [HV.out]; rfl, rfl⟩
def RetII (W : World) (a b : Int) (e : Ending) (w' : World) : Prop := e = .returned (.tuple #[.int .i64 a, .int .i64 b]) ∧ Bel W w'
def leadP : List ByteArray → Nat × Nat
  | [] => (1, 0)
  | s :: _ => if powOf s = 0 then (1, 0) else (powOf s, 1)
theorem bel_drewN {w W : World} {q : Nat} (h : Hid (W = w.drewN q)) : Bel w W := by rw [h.out]; exact ybelow_drewN (Below.refl _ _) q
set_option maxHeartbeats 2000000 in
theorem lead_any {A : Option Addr} {n c : Nat} {xs : List ByteArray} {w : World} (h : Ss w A xs) (hn : n = xs.length) : Calls Tryz.prog 104 #[.slice A n c] w (RetII w ((leadP xs).1 : Int) ((leadP xs).2 : Int)) := by
  have CP : Hid (∀ (n : Nat) (W : World), 2 ≤ n → n < 16 → Calls Tryz.prog 94 #[.int .i64 (n : Int)] W fun e w' => e = .returned (.string (pwB n)) ∧ W = w') := fun n W h2 h15 => powerWord_any h2 h15 W
  cases xs with
  | nil =>
    subst hn
    clear h
    go_enter Tryz.func104, Tryz.ntmps104
    go_wp2
    go_ret2
    exact ⟨rfl, Bel.refl _⟩
  | cons s ys =>
    obtain ⟨ad, rfl, hb, hcell0⟩ := h.out.at_ (k := 0) (by simp)
    rw [show (s :: ys)[0] = s from rfl, show ad.add 0 = ad by simp [Addr.add]] at hcell0
    have hn0 : 0 < n := by rw [hn]; simp
    have d1 : ((n : Int) == 0) = false := by rw [beq_eq_false_iff_ne]; omega
    have d2 : (0 : Int) < (n : Int) := by omega
    clear hn h
    go_enter Tryz.func104, Tryz.ntmps104
    go_wp2
    go_loopw [4] (fun iv wr => ∃ k q : Nat, 2 ≤ k ∧ k ≤ 16 ∧ iv = .int .i64 (k : Int) ∧ Hid (wr = w.drewN q) ∧ Hid (∀ m, m < k → 2 ≤ m → s ≠ pwB m)) (fun iv _ => 16 - (intOf iv).toNat)
    case atStart => exact ⟨2, 0, by omega, by omega, rfl, rfl, fun m h1 h2 => by omega⟩
    case round =>
      obtain ⟨k, q, hk2, hk, rfl, HQ, HM⟩ := hrel
      by_cases hlt : k < 16
      · have hcell : wr.cell? ad = some (.string s) := by rw [HQ.out]; exact hcell0
        have d3 : decide ((k : Int) ≤ 15) = true := decide_eq_true (by omega)
        obtain ⟨t, ht⟩ : ∃ t, t = pwB k := ⟨_, rfl⟩
        have CQ : Hid (∀ W : World, Calls Tryz.prog 94 #[.int .i64 (k : Int)] W fun e w' => e = .returned (.string t) ∧ w' = W) := fun W => (ht ▸ CP.out k W hk2 hlt).mono fun e w' ⟨h1, h3⟩ => ⟨h1, h3.symm⟩
        have HT := khide ht
        clear ht
        by_cases he : s = t
        · have HE : Hid (powOf s = k) := by unfold Hid; rw [he, HT.out]; exact powOf_pw k hlt hk2
          have e2 : (s.toList == t.toList) = true := by rw [he]; simp
          have HK2 := khide hk2
          clear he
          go_wp2_with fail
          go_quiet (first | (go_at_call 94; exact Calls.quiet_of_same (CQ.out _)) | fail)
          go_wp2
          go_ret2
          obtain ⟨q2, hq2⟩ := ydrew_more HQ
          refine ⟨?_, bel_drewN hq2⟩
          have hne : ¬ powOf s = 0 := by rw [HE.out]; have := HK2.out; omega
          simp only [leadP]
          rw [if_neg hne, HE.out]; rfl
        · have e2 : (s.toList == t.toList) = false := by
            rw [beq_eq_false_iff_ne]; intro e3; rw [Lib.toList_data, Lib.toList_data] at e3
            exact he (ByteArray.ext (Array.ext' e3))
          have HE := khide he
          clear he
          go_wp2_with fail
          go_quiet (first | (go_at_call 94; exact Calls.quiet_of_same (CQ.out _)) | fail)
          go_wp2
          go_roundw
          case rel =>
            obtain ⟨q2, hq2⟩ := ydrew_more HQ
            refine ⟨k + 1, q2, by omega, by omega, by go_num, hq2, fun m h1 h2 => ?_⟩
            rcases Nat.lt_or_ge m k with h3 | h3
            · exact HM.out m h3 h2
            · obtain rfl : m = k := by omega
              rw [← HT.out]; exact HE.out
          case measure => simp [intOf]; omega
      · obtain rfl : k = 16 := by omega
        go_wp2
        go_ret2
        refine ⟨?_, bel_drewN HQ⟩
        simp only [leadP]
        rw [if_pos (powOf_no HM.out)]; rfl
end Go.Proofs.YthdpojkeceoiiaaGreatDoor
end

section
/- Package atom: isDigits, isReserved. Conditions: a text that fits. -/
open Go.RowKit
set_option maxRecDepth 100000
namespace Go.Proofs.YthdpojkeceoiiaaGreatDoor
theorem toList_inj {a b : ByteArray} (h : a.toList = b.toList) : a = b := by
  rw [Lib.toList_data, Lib.toList_data] at h
  exact ByteArray.ext (Array.ext' h)
theorem str_ne {a b : ByteArray} (h : a ≠ b) : (a.toList == b.toList) = false := by
  rw [beq_eq_false_iff_ne]; exact fun e => h (toList_inj e)
theorem str_lit {a b : ByteArray} {l : List UInt8} (h : a ≠ b) (hl : b.data.toList = l) : (a.toList == l) = false := by
  rw [← hl, ← Lib.toList_data]; exact str_ne h
theorem resB_lit {s : ByteArray} (h : s = perB ∨ s = andB ∨ s = sqB ∨ s = cuB) : resB s = true := by
  rcases h with rfl | rfl | rfl | rfl <;> decide +kernel
end Go.Proofs.YthdpojkeceoiiaaGreatDoor
end

section
/- A set of strings as a map; package atom: isGoodList, Good. Conditions: texts and lists that fit. -/
open Go.RowKit
set_option maxRecDepth 100000
namespace Go.Proofs.YthdpojkeceoiiaaGreatDoor
theorem skeyed : Go.Maps.Keyed Tryz.prog 9 := Go.Maps.string_keyed Tryz.underlying9
def slit (s : ByteArray) : Lit := .string s.data.toList
theorem skeyOf {s : ByteArray} (h : s.size ≤ 2000000) : keyOf Tryz.prog 9 (.string s) = some (slit s) := Go.WideMaps.keyOf_string_mk Tryz.underlying9 (by unfold maxLen; omega)
theorem slit_inj {a b : ByteArray} (h : slit a = slit b) : a = b := by
  unfold slit at h
  injection h with h
  exact ByteArray.ext (Array.ext' h)
/-- Block b is the set of the strings xs. -/
def SetIs (w : World) (b : Nat) (xs : List ByteArray) : Prop := ∃ D : DataW Unit, w.ownsMap Tryz.prog 9 unitElem b xs.length D ∧ Maps.IsMap D ∧ ∀ s : ByteArray, Maps.has D (slit s) = hasB xs s
theorem setIs_new (w : World) : SetIs (w.alloc (.map #[] 0)) w.heap.size [] :=
  ⟨.map [], World.ownsMap_made _ _ _ _, Maps.isMap_empty, fun _ => rfl⟩
theorem hasB_snoc (xs : List ByteArray) (x y : ByteArray) : hasB (xs ++ [x]) y = (hasB xs y || decide (x = y)) := by
  unfold hasB; rw [List.any_append]; simp
theorem SetIs.lt {w : World} {b : Nat} {xs : List ByteArray} (h : SetIs w b xs) : b < w.heap.size := by
  obtain ⟨D, h1, _⟩ := h; exact h1.lt
theorem SetIs.up {w w' : World} {b : Nat} {xs : List ByteArray} (h : SetIs w b xs) (hb : Hid (Below w.heap.size w w')) : SetIs w' b xs := by
  have e := hb.out.block b h.lt
  obtain ⟨D, ⟨es, clock, h1, F, hs, hD⟩, h2, h3⟩ := h
  exact ⟨D, ⟨es, clock, e.trans h1, F, hs, hD⟩, h2, h3⟩
theorem SetIs.al {w : World} {b : Nat} {xs : List ByteArray} (h : SetIs w b xs) (o : Obj) : SetIs (w.alloc o) b xs := h.up ((Below.refl _ _).alloc (Nat.le_refl _) o)
end Go.Proofs.YthdpojkeceoiiaaGreatDoor
end

section
/- Package atom: Good. Conditions: texts and lists that fit. -/
open Go.RowKit
set_option maxRecDepth 100000
namespace Go.Proofs.YthdpojkeceoiiaaGreatDoor
end Go.Proofs.YthdpojkeceoiiaaGreatDoor
end

section
/- Package atom: prefixSize. Conditions: a text that fits. -/
open Go.RowKit
set_option maxRecDepth 100000
namespace Go.Proofs.YthdpojkeceoiiaaGreatDoor
theorem Tryz.infoBool : (Tryz.prog.info? 4).map (fun i => (i.zero, i.size, i.bytes)) = some (some (.bool false), 1, 1) := by kernel_rfl
theorem make_bools (n : Nat) (hn : n ≤ 281474976710656) (w : World) : (Instr.makeSlice 189 (.int .i64 (n : Int)) (.int .i64 (n : Int))).run Tryz.prog w =
    .ok (.slice (some ⟨w.heap.size, 0, none⟩) n n) (w.alloc (.cells (madeCells #[.bool false] n) 4)) := by
  obtain ⟨i0, hi0, hz0, hz1, hz2⟩ := info_parts Tryz.infoBool
  have h := run_make (P := Tryz.prog) w 189 4 i0 (.bool false) Tryz.underlying189 hi0 hz0 .i64 .i64 n n (by omega) (by omega) (by rw [hz2]; omega) (by omega)
  simpa [hz1, Value.cells] using h
/-- Block q holds n flags: flag i is f i. -/
def Bs (W : World) (q n : Nat) (f : Nat → Bool) : Prop := At W q ((List.range n).map fun i => .bool (f i))
theorem made_bools (w : World) (n : Nat) : Bs (w.alloc (.cells (madeCells #[.bool false] n) 4)) w.heap.size n (fun _ => false) := by
  have e : madeCells #[.bool false] n = ((List.range n).map fun _ => Value.bool false).toArray := by
    apply Array.ext
    · simp [size_madeCells]
    · intro i h1 h2
      simp [madeCells, Nat.mod_one]
  rw [e]
  exact at_new0 _ _ _
section
variable {W W' : World} {q n i : Nat} {f : Nat → Bool}
theorem Bs.up (h : Bs W q n f) (hb : Hid (Below W.heap.size W W')) : Bs W' q n f := At.up h hb
theorem Bs.get (h : Bs W q n f) (hi : i < n) : W.cell? ⟨q, i, none⟩ = some (.bool (f i)) := At.ci h (by rw [List.getElem?_map, List.getElem?_range hi]; rfl)
theorem Bs.fz (h : Bs W q n f) (hi : i < n) : W.frozen? ⟨q, i, none⟩ = false := At.fi (v := .bool (f i)) h (by rw [List.getElem?_map, List.getElem?_range hi]; rfl)
theorem Bs.set (h : Bs W q n f) (hi : i < n) : Bs (W.setCell ⟨q, i, none⟩ (.bool true)) q n (fun j => f j || (i == j)) := by
  have h1 := At.put h (i := i) (by simpa using hi) (.bool true)
  unfold Bs
  have e : ((List.range n).map fun i => Value.bool (f i)).set i (.bool true) = (List.range n).map fun j => Value.bool (f j || (i == j)) := by
    apply List.ext_getElem?
    intro k
    by_cases hk : i = k
    · subst hk
      rw [List.getElem?_set_self (by simpa using hi), List.getElem?_map, List.getElem?_range hi]; simp
    · rw [List.getElem?_set_ne hk, List.getElem?_map, List.getElem?_map]
      cases hg : (List.range n)[k]? with
      | none => rfl
      | some x =>
        have hx : x = k := by
          have := List.getElem?_eq_some_iff.1 hg
          obtain ⟨h2, h3⟩ := this
          rw [List.getElem_range] at h3; exact h3.symm
        subst hx
        have : (i == x) = false := beq_eq_false_iff_ne.2 hk
        simp [this]
  rw [← e]; exact h1
theorem Bs.congr {g : Nat → Bool} (h : Bs W q n f) (e : ∀ i, i < n → f i = g i) : Bs W q n g := by
  have e2 : ((List.range n).map fun i => Value.bool (f i)) = (List.range n).map fun i => Value.bool (g i) := by
    apply List.map_congr_left
    intro i hi
    rw [e i (List.mem_range.1 hi)]
  unfold Bs at h ⊢
  rw [← e2]; exact h
end
def sizeP (names ps : List ByteArray) (u : ByteArray) : Nat × Bool := if hasB names u then (0, true) else (lpB names u ps, decide (0 < lpB names u ps))
def RetIB (W : World) (a : Int) (b : Bool) (e : Ending) (w' : World) : Prop := e = .returned (.tuple #[.int .i64 a, .bool b]) ∧ Bel W w'
set_option maxHeartbeats 4000000 in
theorem prefixSize_any {A B : Option Addr} {n c m d : Nat} {names ps : List ByteArray} {u : ByteArray} {w : World} (h : Ss w A names) (hn : n = names.length) (hl : n ≤ 1000000) (h' : Ss w B ps) (hm : m = ps.length) (hl' : m ≤ 1000000) (hu : u.size ≤ 140737488355328) :
    Calls Tryz.prog 105 #[.agg #[.slice A n c, .slice B m d], .string u] w (RetIB w ((sizeP names ps u).1 : Int) (sizeP names ps u).2) := by
  have CS : Hid (∀ (x : ByteArray) (W : World), Calls Tryz.prog 142 #[.string u, .string x] W fun e w' => e = .returned (.bool (Lib.hasSuffix u.data.toList x.data.toList)) ∧ W = w') := fun x W => (Tryz.strings_HasSuffix u x W (by omega)).mono fun e w' ⟨h1, h3⟩ => ⟨h1, h3.symm⟩
  have CP : Hid (∀ (x : ByteArray) (W : World), Calls Tryz.prog 143 #[.string u, .string x] W fun e w' => e = .returned (.bool (Lib.hasPrefix u.data.toList x.data.toList)) ∧ W = w') := fun x W => (Tryz.strings_HasPrefix u x W).mono fun e w' ⟨h1, h3⟩ => ⟨h1, h3.symm⟩
  have HN := khide hn
  have HM := khide hm
  have hmk : ∀ W : World, (Instr.makeSlice 189 (.int .i64 ((u.size : Int) + 1)) (.int .i64 ((u.size : Int) + 1))).run Tryz.prog W = .ok (.slice (some ⟨W.heap.size, 0, none⟩) (u.size + 1) (u.size + 1)) (W.alloc (.cells (madeCells #[.bool false] (u.size + 1)) 4)) := fun W => make_bools (u.size + 1) (by omega) W
  clear hn hm
  obtain ⟨W1, hW1⟩ : ∃ X, X = (w.alloc (.cells #[.slice A n c, .slice B m d] 31)).alloc (.cells (madeCells #[.bool false] (u.size + 1)) 4) := ⟨_, rfl⟩
  have HA : At W1 w.heap.size [.slice A n c, .slice B m d] := by rw [hW1]; exact (at_new0 _ _ _).al _
  have HB : Bel w W1 := by rw [hW1]; exact ((Bel.refl w).al _).al _
  have HE : Bs W1 (w.heap.size + 1) (u.size + 1) (endB (names.take 0) u) := by
    rw [hW1]
    have h2 := made_bools (w.alloc (.cells #[.slice A n c, .slice B m d] 31)) (u.size + 1)
    rw [show (w.alloc (.cells #[.slice A n c, .slice B m d] 31)).heap.size = w.heap.size + 1 by simp] at h2
    exact h2
  have HW := khide hW1
  clear hW1
  have ha_0 := HA.c0; have ha_1 := HA.c1; have ha_l := HA.lt
  go_enter Tryz.func105, Tryz.ntmps105
  go_upto_region 2 with fail
  rw [← HW.out]
  obtain ⟨p, hp⟩ : ∃ p, p = w.heap.size := ⟨_, rfl⟩
  obtain ⟨q, hq⟩ : ∃ p, p = w.heap.size + 1 := ⟨_, rfl⟩
  have HQ : Hid (w.heap.size ≤ q) := by unfold Hid; omega
  have HPQ : Hid (q ≠ p) := by unfold Hid; omega
  rw [← hp] at HA ha_0 ha_1 ha_l
  rw [← hq] at HE
  rw [← hq, ← hp]
  clear HW hmk hp hq
  go_upto_region 3 with fail
  clear ha_0 ha_1 ha_l
  go_loopw [19] (fun iv wr => ∃ k : Nat, k ≤ n ∧ iv = .int .i64 (k : Int) ∧ Hid (Bel w wr) ∧ Hid (At wr p [.slice A n c, .slice B m d]) ∧ Hid (Bs wr q (u.size + 1) (endB (names.take k) u))) (fun iv _ => n - (intOf iv).toNat)
  case atStart => exact ⟨0, Nat.zero_le _, rfl, HB, HA, HE⟩
  case round =>
    clear HB HA HE
    obtain ⟨k, hk, rfl, HB, HA, HE⟩ := hrel
    by_cases hlt : k < n
    · have hx : k < names.length := by rw [← HN.out]; exact hlt
      obtain ⟨ad, rfl, had, hcell⟩ := (h.up HB.out.hid).out.at_ hx
      obtain ⟨x, hxe⟩ : ∃ x, x = names[k] := ⟨_, rfl⟩
      rw [← hxe] at hcell
      obtain ⟨b, hb⟩ : ∃ b, Lib.hasSuffix u.data.toList x.data.toList = b := ⟨_, rfl⟩
      have CX : Hid (∀ W : World, Calls Tryz.prog 142 #[.string u, .string x] W fun e w' => e = .returned (.bool b) ∧ W = w') := fun W => hb ▸ CS.out x W
      have HV : Hid (∀ i, endB (names.take (k + 1)) u i = (endB (names.take k) u i || (b && (u.size - x.size == i)))) := fun i => by rw [endB_take hx, ← hxe, hb]
      cases b with
      | false =>
        have HE2 : Hid (Bs wr q (u.size + 1) (endB (names.take (k + 1)) u)) := HE.out.congr (fun i _ => by rw [HV.out i]; simp)
        clear hb hxe hx HV
        go_wp2_with (first | (go_at_call 142; (with_reducible refine (CX.out _).mono ?_); rintro e w1 ⟨rfl, rfl⟩) | fail)
        go_roundw
        case rel => exact ⟨k + 1, by omega, by go_num, HB, HA, HE2⟩
        case measure => simp [intOf]; omega
      | true =>
        have hsz : x.size ≤ u.size := ((suffix_iff u x).1 hb).1
        obtain ⟨i, hi⟩ : ∃ i, u.size - x.size = i := ⟨_, rfl⟩
        have e1 : (u.size : Int) - (x.size : Int) = (i : Int) := by omega
        have hi2 : i < u.size + 1 := by omega
        have hi3 : (i : Int) < (u.size : Int) + 1 := by omega
        have e0 := HE.out.get hi2
        have e0f := HE.out.fz hi2
        have e0l := HE.out.lt
        have HE2 : Hid (Bs (wr.setCell ⟨q, i, none⟩ (.bool true)) q (u.size + 1) (endB (names.take (k + 1)) u)) := (HE.out.set hi2).congr (fun j _ => by rw [HV.out j, hi]; rfl)
        have HA2 := khide (HA.out.far (i := i) HPQ.out (.bool true))
        have HB2 : Hid (Bel w (wr.setCell ⟨q, i, none⟩ (.bool true))) := Below.setCell HB.out HQ.out _
        clear hb hxe hx HV hi hsz
        go_wp2_with (first | (go_at_call 142; (with_reducible refine (CX.out _).mono ?_); rintro e w1 ⟨rfl, rfl⟩) | fail)
        go_roundw
        case rel => exact ⟨k + 1, by omega, by go_num, HB2, HA2, HE2⟩
        case measure => simp [intOf]; omega
    · obtain rfl : k = n := by omega
      have HE2 : Hid (Bs wr q (u.size + 1) (endB names u)) := by
        have h3 := HE.out
        rwa [List.take_of_length_le (by rw [← HN.out]; exact Nat.le_refl _)] at h3
      clear HE hlt hk
      have e0 := HE2.out.get (i := 0) (by omega)
      have el := HE2.out.lt
      obtain ⟨b, hb⟩ : ∃ b, endB names u 0 = b := ⟨_, rfl⟩
      rw [hb] at e0
      have HH : Hid (hasB names u = b) := by
        unfold Hid; rw [← hb, endB_mem (Nat.zero_le _), restB_zero]
      clear hb
      have ha_0 := HA.out.c0; have ha_1 := HA.out.c1; have ha_l := HA.out.lt
      cases b with
      | true =>
        go_wp2
        go_ret2
        refine ⟨?_, HB.out⟩
        unfold sizeP
        rw [HH.out]; rfl
      | false =>
        go_wp2_with fail
        go_loop [9, 40] (fun lv iv => ∃ k : Nat, k ≤ m ∧ iv = .int .i64 (k : Int) ∧ lv = .int .i64 ((lpB names u (ps.take k) : Nat) : Int)) (fun _ iv => m - (intOf iv).toNat)
        case atStart => exact ⟨0, Nat.zero_le _, rfl, rfl⟩
        case round =>
          obtain ⟨k, hk, rfl, rfl⟩ := hrel
          by_cases hlt : k < m
          · have hx : k < ps.length := by rw [← HM.out]; exact hlt
            obtain ⟨bd, rfl, hbd, hcell⟩ := (h'.up HB.out.hid).out.at_ hx
            obtain ⟨x, hxe⟩ : ∃ x, x = ps[k] := ⟨_, rfl⟩
            rw [← hxe] at hcell
            obtain ⟨b, hb⟩ : ∃ b, Lib.hasPrefix u.data.toList x.data.toList = b := ⟨_, rfl⟩
            obtain ⟨e, he⟩ : ∃ e, hasB names (restB u x.size) = e := ⟨_, rfl⟩
            have CX : Hid (∀ W : World, Calls Tryz.prog 143 #[.string u, .string x] W fun e w' => e = .returned (.bool b) ∧ W = w') := fun W => hb ▸ CP.out x W
            obtain ⟨L, hL⟩ : ∃ L, lpB names u (ps.take k) = L := ⟨_, rfl⟩
            have HV : Hid (lpB names u (ps.take (k + 1)) = if (b && e) then max L x.size else L) := by
              unfold Hid; rw [lpB_take hx, ← hxe, hL]; unfold hitB; rw [hb, he]
            have HLu : Hid (L ≤ u.size) := by unfold Hid; rw [← hL]; exact lpB_le ps k (by omega)
            rw [hL]
            cases b with
            | false =>
              have HV2 : Hid (lpB names u (ps.take (k + 1)) = L) := HV.out
              clear hb he hL hxe hx HV
              go_wp2_with (first | (go_at_call 143; (with_reducible refine (CX.out _).mono ?_); rintro e w1 ⟨rfl, rfl⟩) | fail)
              go_round
              case rel => exact ⟨k + 1, by omega, by go_num, by rw [HV2.out]⟩
              case measure => simp [intOf]; omega
            | true =>
              have hsz : x.size ≤ u.size := by
                have h1 : x.data.toList <+: u.data.toList := List.isPrefixOf_iff_prefix.1 hb
                rw [Lib.size_eq, Lib.size_eq]; exact h1.length_le
              have e1 := HE2.out.get (i := x.size) (by omega)
              rw [endB_mem hsz, he] at e1
              have hi3 : (x.size : Int) < (u.size : Int) + 1 := by omega
              cases e with
              | false =>
                have HV2 : Hid (lpB names u (ps.take (k + 1)) = L) := HV.out
                clear hb he hL hxe hx HV
                go_wp2_with (first | (go_at_call 143; (with_reducible refine (CX.out _).mono ?_); rintro e w1 ⟨rfl, rfl⟩) | fail)
                go_round
                case rel => exact ⟨k + 1, by omega, by go_num, by rw [HV2.out]⟩
                case measure => simp [intOf]; omega
              | true =>
                have HV2 : Hid (lpB names u (ps.take (k + 1)) = max L x.size) := HV.out
                clear hb he hL hxe hx HV
                go_wp2_with (first | (go_at_call 143; (with_reducible refine (CX.out _).mono ?_); rintro e w1 ⟨rfl, rfl⟩) | fail)
                go_round
                case rel => exact ⟨k + 1, by omega, by go_num, by rw [HV2.out, show max (L : Int) (x.size : Int) = ((max L x.size : Nat) : Int) by omega]⟩
                case measure => simp [intOf]; omega
          · obtain rfl : k = m := by omega
            obtain ⟨L, hL⟩ : ∃ L, lpB names u ps = L := ⟨_, rfl⟩
            have e2 : ps.take k = ps := List.take_of_length_le (by rw [← HM.out]; exact Nat.le_refl _)
            rw [e2, hL]
            have HLL := khide hL
            clear e2 hL
            by_cases h0 : 0 < L
            · have d0 : decide ((0 : Int) < (L : Int)) = true := decide_eq_true (by omega)
              have HD : Hid (decide (0 < L) = true) := decide_eq_true h0
              clear h0
              go_wp2
              go_ret2
              refine ⟨?_, HB.out⟩
              unfold sizeP
              rw [HH.out, HLL.out]
              simp only [Bool.false_eq_true, if_false]
              rw [HD.out]; try rfl
            · have d0 : decide ((0 : Int) < (L : Int)) = false := decide_eq_false (by omega)
              have HD : Hid (decide (0 < L) = false) := decide_eq_false h0
              clear h0
              go_wp2
              go_ret2
              refine ⟨?_, HB.out⟩
              unfold sizeP
              rw [HH.out, HLL.out]
              simp only [Bool.false_eq_true, if_false]
              rw [HD.out]; try rfl
end Go.Proofs.YthdpojkeceoiiaaGreatDoor
end

section
/- Package atom: Parse. Conditions: texts and lists that fit. -/
open Go.RowKit
set_option maxRecDepth 100000
namespace Go.Proofs.YthdpojkeceoiiaaGreatDoor
def eB : ByteArray := ⟨#[]⟩
/-- An atom, the words that it takes, and whether there is one. -/
structure PA where
  p : ByteArray
  n : ByteArray
  k : Nat
  t : Nat
  ok : Bool
def noPA : PA := ⟨eB, eB, 0, 0, false⟩
def parseU (names ps : List ByteArray) (k t : Nat) (u : ByteArray) : PA := if (sizeP names ps u).2 then ⟨u.extract 0 (sizeP names ps u).1, restB u (sizeP names ps u).1, k, t + 1, true⟩ else noPA
def parseA (names ps l : List ByteArray) : PA :=
  match l[(leadP l).2]? with
  | none => noPA
  | some u => parseU names ps (leadP l).1 (leadP l).2 u
theorem leadP_le (l : List ByteArray) : (leadP l).2 ≤ l.length ∧ (leadP l).2 ≤ 1 := by
  cases l with
  | nil => exact ⟨Nat.le_refl _, by decide⟩
  | cons s l =>
    by_cases h : powOf s = 0
    · have e : leadP (s :: l) = (1, 0) := if_pos h
      rw [e]; simp
    · have e : leadP (s :: l) = (powOf s, 1) := if_neg h
      rw [e]; simp
theorem sizeP_le (names ps : List ByteArray) (u : ByteArray) : (sizeP names ps u).1 ≤ u.size := by
  unfold sizeP
  split
  · simp
  · have := lpB_le (names := names) (u := u) ps ps.length (Nat.le_refl _)
    rwa [List.take_length] at this
def PRes (W : World) (a : PA) (e : Ending) (w' : World) : Prop := e = .returned (.tuple #[.agg #[.string a.p, .string a.n, .int .i64 (a.k : Int)], .int .i64 (a.t : Int), .bool a.ok]) ∧ Bel W w'
theorem kbelow3 {W w2 : World} {p : Nat} (h : Bel W w2) (hp : W.heap.size ≤ p) (x y z : Value) : Bel W (((w2.setCell ⟨p, 0, none⟩ x).setCell ⟨p, 1, none⟩ y).setCell ⟨p, 2, none⟩ z) :=
  ((Below.setCell h hp _).setCell hp _).setCell hp _
set_option maxHeartbeats 4000000 in
theorem parse_any {A B D : Option Addr} {n c m d j g : Nat} {names ps l : List ByteArray} {w : World} (h : Ss w A names) (hn : n = names.length) (hl : n ≤ 1000000) (h' : Ss w B ps) (hm : m = ps.length) (hl' : m ≤ 1000000) (h2 : Ss w D l) (hj : j = l.length) (hu : ∀ x ∈ l, x.size ≤ 140737488355328) :
    Calls Tryz.prog 77 #[.agg #[.slice A n c, .slice B m d], .slice D j g] w (PRes w (parseA names ps l)) := by
  obtain ⟨pw, hpw⟩ : ∃ x, (leadP l).1 = x := ⟨_, rfl⟩
  obtain ⟨tk, htk⟩ : ∃ x, (leadP l).2 = x := ⟨_, rfl⟩
  have CL : Hid (∀ W, Bel w W → Calls Tryz.prog 104 #[.slice D j g] W (RetII W (pw : Int) (tk : Int))) := fun W hb => by rw [← hpw, ← htk]; exact lead_any (h2.up hb.hid) hj
  have hle := leadP_le l
  rw [htk] at hle
  have HV : Hid (parseA names ps l = match l[tk]? with | none => noPA | some u => parseU names ps pw tk u) := by unfold Hid parseA; rw [hpw, htk]
  obtain ⟨W1, hW1⟩ : ∃ X, X = (w.alloc (.cells #[.slice A n c, .slice B m d] 31)).alloc (.cells #[.string ⟨#[]⟩, .string ⟨#[]⟩, .int .i64 0] 59) := ⟨_, rfl⟩
  have HA : At W1 w.heap.size [.slice A n c, .slice B m d] := by rw [hW1]; exact (at_new0 _ _ _).al _
  have HR : At W1 (w.heap.size + 1) [.string ⟨#[]⟩, .string ⟨#[]⟩, .int .i64 0] := by rw [hW1]; exact at_new1 _ _ _ _
  have HB : Bel w W1 := by rw [hW1]; exact ((Bel.refl w).al _).al _
  have HW := khide hW1
  have HN := khide hn
  have HM := khide hm
  have HJ := khide hj
  clear hW1 hpw htk hn hm
  go_enter Tryz.func77, Tryz.ntmps77
  go_upto_region 1 with fail
  rw [← HW.out]
  obtain ⟨p, hp⟩ : ∃ p, p = w.heap.size := ⟨_, rfl⟩
  obtain ⟨q, hq⟩ : ∃ p, p = w.heap.size + 1 := ⟨_, rfl⟩
  have HQ : Hid (w.heap.size ≤ q) := by unfold Hid; omega
  rw [← hp] at HA
  rw [← hq] at HR
  rw [← hq, ← hp]
  clear HW hp hq
  by_cases he : tk = j
  · have d1 : ((tk : Int) == (j : Int)) = true := by rw [beq_iff_eq]; omega
    have HV2 : Hid (parseA names ps l = noPA) := by unfold Hid; rw [HV.out, List.getElem?_eq_none (by omega)]
    have HE := khide he
    clear he hle hu HV hj
    go_upto_region 2 with (first | (go_at_call 104; (with_reducible refine (CL.out _ HB).mono ?_); rintro e w1 ⟨rfl, hb⟩; (replace HA := HA.up hb.hid); (replace HR := HR.up hb.hid); (replace HB := HB.up hb.hid); clear hb) | fail)
    have hr_0 := HR.c0; have hr_1 := HR.c1; have hr_2 := HR.c2; have hr_l := HR.lt; have hr_f0 := HR.f0; have hr_f1 := HR.f1; have hr_f2 := HR.f2
    go_wp2_with fail
    refine bodyPost_ret (v := .tuple #[.agg #[.string ⟨#[]⟩, .string ⟨#[]⟩, .int .i64 0], .int .i64 0, .bool false]) (by simp [results, Tryz.results77, go_sem, hr_0, hr_1, hr_2]) rfl ⟨?_, ?_⟩
    · rw [HV2.out]; rfl
    · exact kbelow3 HB HQ.out _ _ _
  · have d1 : ((tk : Int) == (j : Int)) = false := by rw [beq_eq_false_iff_ne]; omega
    have hk : tk < l.length := by omega
    obtain ⟨u, hu2⟩ : ∃ u, u = l[tk] := ⟨_, rfl⟩
    have huz : Hid (u.size ≤ 140737488355328) := hu u (by rw [hu2]; exact List.getElem_mem hk)
    obtain ⟨sz, hsz⟩ : ∃ x, (sizeP names ps u).1 = x := ⟨_, rfl⟩
    obtain ⟨ok, hok⟩ : ∃ x, (sizeP names ps u).2 = x := ⟨_, rfl⟩
    have CP : Hid (∀ W, Bel w W → Calls Tryz.prog 105 #[.agg #[.slice A n c, .slice B m d], .string u] W (RetIB W (sz : Int) ok)) := fun W hb => by rw [← hsz, ← hok]; exact prefixSize_any (h.up hb.hid) HN.out hl (h'.up hb.hid) HM.out hl' huz.out
    have hle2 : sz ≤ u.size := by rw [← hsz]; exact sizeP_le names ps u
    have HV2 : Hid (parseA names ps l = if ok then ⟨u.extract 0 sz, restB u sz, pw, tk + 1, true⟩ else noPA) := by
      unfold Hid
      rw [HV.out, List.getElem?_eq_getElem hk, ← hu2]
      show parseU names ps pw tk u = _
      unfold parseU; rw [hsz, hok]
    obtain ⟨ad, rfl, had, hcell⟩ := h2.out.at_ hk
    rw [← hu2] at hcell
    have t1 : (tk : Int) < (j : Int) := by omega
    have t2 : (0 : Int) ≤ (tk : Int) := by omega
    have HT1 : Hid (tk ≤ 1) := hle.2
    have s1 : (sz : Int) ≤ (u.size : Int) := by omega
    have s2 : (0 : Int) ≤ (sz : Int) := by omega
    have hC : Hid (∀ W', Bel w W' → W'.cell? (ad.add tk) = some (.string u)) := fun W' hb => (hb.cell (by rw [yblock_add]; exact had)).trans hcell
    clear hcell had hu2 hu hle HV hj he hk hsz hok
    go_upto_region 4 with (first | (go_at_call 104; (with_reducible refine (CL.out _ HB).mono ?_); rintro e w1 ⟨rfl, hb⟩; (replace HA := HA.up hb.hid); (replace HR := HR.up hb.hid); (replace HB := HB.up hb.hid); clear hb) | fail)
    have hcell := hC.out _ HB
    have ha_0 := HA.c0; have ha_1 := HA.c1; have ha_l := HA.lt
    cases ok with
    | false =>
      go_upto_region 7 with (first | (go_at_call 105; (with_reducible refine (CP.out _ HB).mono ?_); rintro e w2 ⟨rfl, hb⟩; (replace HA := HA.up hb.hid); (replace HR := HR.up hb.hid); (replace HB := HB.up hb.hid); clear hb hcell ha_0 ha_1 ha_l) | fail)
      have hr_0 := HR.c0; have hr_1 := HR.c1; have hr_2 := HR.c2; have hr_l := HR.lt; have hr_f0 := HR.f0; have hr_f1 := HR.f1; have hr_f2 := HR.f2
      go_wp2_with fail
      refine bodyPost_ret (v := .tuple #[.agg #[.string ⟨#[]⟩, .string ⟨#[]⟩, .int .i64 0], .int .i64 0, .bool false]) (by simp [results, Tryz.results77, go_sem, hr_0, hr_1, hr_2]) rfl ⟨?_, kbelow3 HB HQ.out _ _ _⟩
      rw [HV2.out]; rfl
    | true =>
      go_upto_region 8 with (first | (go_at_call 105; (with_reducible refine (CP.out _ HB).mono ?_); rintro e w2 ⟨rfl, hb⟩; (replace HA := HA.up hb.hid); (replace HR := HR.up hb.hid); (replace HB := HB.up hb.hid); clear hb hcell ha_0 ha_1 ha_l) | fail)
      have hr_0 := HR.c0; have hr_1 := HR.c1; have hr_2 := HR.c2; have hr_l := HR.lt; have hr_f0 := HR.f0; have hr_f1 := HR.f1; have hr_f2 := HR.f2
      go_region
      all_goals go_wp2_with fail
      have e9 : wrap64 ((tk : Int) + 1) = (tk : Int) + 1 := by have := HT1.out; unfold wrap64; omega
      all_goals refine bodyPost_ret (v := .tuple #[.agg #[.string (u.extract 0 sz), .string (u.extract sz u.size), .int .i64 (pw : Int)], .int .i64 ((tk : Int) + 1), .bool true]) (by simp [results, Tryz.results77, go_sem, hr_0, hr_1, hr_2, e9]) rfl ⟨?_, (kbelow3 HB HQ.out _ _ _).dr⟩
      all_goals (rw [HV2.out]; rfl)
end Go.Proofs.YthdpojkeceoiiaaGreatDoor
end

section
/- Words: Join. Conditions: a text that fits. -/
open Go.RowKit
set_option maxRecDepth 100000
namespace Go.Proofs.YthdpojkeceoiiaaGreatDoor
/-- The words put together with a hyphen between them. -/
def joinS (xs : List ByteArray) : ByteArray := ⟨(glue 45 (xs.map (·.data.toList))).toArray⟩
def StrR (W : World) (s : ByteArray) (e : Ending) (w' : World) : Prop := e = .returned (.string s) ∧ Hid (Below W.heap.size W w')
theorem plain_of {w : World} {ad : Addr} {v : Value} (h : w.cell? ad = some v) : ∃ b o, ad = ⟨b, o, none⟩ := by
  obtain ⟨b, o, sp⟩ := ad
  cases sp with
  | none => exact ⟨b, o, rfl⟩
  | some k =>
    unfold World.cell? at h
    split at h
    · simp at h
    · cases h
theorem sjoin_any {w : World} {A : Option Addr} {n c : Nat} {xs : List ByteArray} (h : Ss w A xs) (hn : n = xs.length) (hc : n ≤ c) (hN : n ≤ 1000000) (hl : (glue 45 (xs.map (·.data.toList))).length ≤ 140737488355328) :
    Calls Tryz.prog 28 #[.slice A n c, .string ⟨#[45]⟩] w (StrR w (joinS xs)) := by
  subst hn
  cases xs with
  | nil =>
    refine (Tryz.strings_Join_none A c ⟨#[45]⟩ w).mono fun e w' ⟨he, hw⟩ => ⟨by rw [he]; rfl, by rw [hw]; exact Below.refl _ _⟩
  | cons x xs =>
    obtain ⟨ad, rfl, hb, hcell⟩ := h.out (by simp)
    have h0 := hcell 0 x rfl
    obtain ⟨b, o, hbo⟩ := plain_of h0
    rw [show ad.add 0 = ad by simp [Addr.add]] at hbo
    subst hbo
    have hcl : ∀ (j : Nat) y, (x :: xs)[j]? = some y → w.cell? ⟨b, o + j, none⟩ = some (.string y) := fun j y hj => by
      have h1 := hcell j y hj
      have e : (⟨b, o, none⟩ : Addr).add j = ⟨b, o + j, none⟩ := by unfold Addr.add; split <;> simp_all
      rwa [e] at h1
    have c1 := Tryz.strings_Join b o c (x :: xs) ⟨#[45]⟩ w hcl hb (by omega) hc (by rw [show (⟨#[45]⟩ : ByteArray).data.toList = [45] from rfl, join_glue]; exact hl)
    refine c1.mono fun e w' ⟨he, hw⟩ => ⟨?_, hw⟩
    rw [he, show (⟨#[45]⟩ : ByteArray).data.toList = [45] from rfl, join_glue]; rfl
theorem wjoin_any {w : World} {A : Option Addr} {n c : Nat} {xs : List ByteArray} (h : Ss w A xs) (hn : n = xs.length) (hc : n ≤ c) (hN : n ≤ 1000000) (hl : (glue 45 (xs.map (·.data.toList))).length ≤ 140737488355328) :
    Calls Tryz.prog 40 #[.slice A n c] w (StrR w (joinS xs)) := by
  have CJ := yhide (sjoin_any h hn hc hN hl)
  clear h hn hc hN hl
  obtain ⟨t, ht⟩ : ∃ t, t = joinS xs := ⟨_, rfl⟩
  rw [← ht] at CJ ⊢
  clear ht
  go_enter Tryz.func40, Tryz.ntmps40
  go_wp2_with (first | (go_at_call 28; (with_reducible refine CJ.out.mono ?_); rintro e w1 ⟨rfl, hbk⟩) | fail)
  go_ret
  exact ⟨rfl, hbk⟩
end Go.Proofs.YthdpojkeceoiiaaGreatDoor
end

section
/- Package atom: Show. Conditions: texts that fit. -/
open Go.RowKit
set_option maxRecDepth 100000
namespace Go.Proofs.YthdpojkeceoiiaaGreatDoor
def showB (p n : ByteArray) (k : Int) : ByteArray := if k < 1 ∨ 15 < k then eB else if k = 1 then p ++ n else joinS [pwB k.toNat, p ++ n]
theorem lit_ssk (W : World) (xs : List ByteArray) (t : TypeId) : Ss (W.alloc (.cells (xs.map Value.string).toArray t)) (some ⟨W.heap.size, 0, none⟩) xs := fun _ =>
  ⟨⟨W.heap.size, 0, none⟩, rfl, (at_new0 W (xs.map Value.string) t).lt, fun j x hj => by
    rw [show (⟨W.heap.size, 0, none⟩ : Addr).add j = ⟨W.heap.size, j, none⟩ by unfold Addr.add; split <;> simp_all]
    exact (at_new0 W (xs.map Value.string) t).ci (by rw [List.getElem?_map, hj]; rfl)⟩
theorem glue_two (a b : ByteArray) : (glue 45 ([a, b].map (·.data.toList))).length = a.size + b.size + 1 := by
  simp only [List.map_cons, List.map_nil, glue, List.length_append, List.length_cons, Lib.size_eq]; omega
set_option maxHeartbeats 4000000 in
theorem show_any {p n : ByteArray} {k : Int} (hs : p.size + n.size ≤ 140737488355000) (w : World) : Calls Tryz.prog 66 #[.agg #[.string p, .string n, .int .i64 k]] w (StrR w (showB p n k)) := by
  have hs1 : ¬ 9223372036854775807 < p.size + n.size := by omega
  have hs2 : p.size + n.size ≤ 9223372036854775807 := by omega
  obtain ⟨u, hu⟩ : ∃ u, u = p ++ n := ⟨_, rfl⟩
  have huz : u.size = p.size + n.size := by rw [hu, ByteArray.size_append]
  obtain ⟨W1, hW1⟩ : ∃ X, X = w.alloc (.cells #[.string p, .string n, .int .i64 k] 59) := ⟨_, rfl⟩
  have HA : At W1 w.heap.size [.string p, .string n, .int .i64 k] := by rw [hW1]; exact at_new0 _ _ _
  have HB : Bel w W1 := by rw [hW1]; exact (Bel.refl w).al _
  have HW := khide hW1
  have ha_0 := HA.c0; have ha_1 := HA.c1; have ha_2 := HA.c2; have ha_l := HA.lt
  by_cases h1 : k < 1
  · have d1 : decide (k < 1) = true := decide_eq_true h1
    have HV : Hid (showB p n k = eB) := if_pos (.inl h1)
    clear h1 hW1 hu huz
    go_enter Tryz.func66, Tryz.ntmps66
    go_upto_region 1 with fail
    rw [← HW.out]
    go_wp2
    go_ret
    exact ⟨by rw [HV.out]; rfl, HB⟩
  by_cases h2 : 15 < k
  · have d1 : decide (k < 1) = false := decide_eq_false h1
    have d2 : decide (15 < k) = true := decide_eq_true h2
    have HV : Hid (showB p n k = eB) := if_pos (.inr h2)
    clear h1 h2 hW1 hu huz
    go_enter Tryz.func66, Tryz.ntmps66
    go_upto_region 1 with fail
    rw [← HW.out]
    go_wp2
    go_ret
    exact ⟨by rw [HV.out]; rfl, HB⟩
  have d1 : decide (k < 1) = false := decide_eq_false h1
  have d2 : decide (15 < k) = false := decide_eq_false h2
  by_cases h3 : k = 1
  · have d3 : (k == 1) = true := by rw [h3]; rfl
    have HV : Hid (showB p n k = p ++ n) := by unfold Hid showB; rw [if_neg (by omega), if_pos h3]
    clear h1 h2 h3 hW1 hu huz
    go_enter Tryz.func66, Tryz.ntmps66
    go_upto_region 1 with fail
    rw [← HW.out]
    go_wp2
    go_ret
    exact ⟨by rw [HV.out]; rfl, HB⟩
  · obtain ⟨j, rfl⟩ : ∃ j : Nat, k = (j : Int) := ⟨k.toNat, by omega⟩
    have d3 : ((j : Int) == 1) = false := beq_eq_false_iff_ne.2 h3
    have hj2 : 2 ≤ j := by omega
    have hj16 : j < 16 := by omega
    obtain ⟨t, ht⟩ : ∃ t, pwB j = t := ⟨_, rfl⟩
    have CW : Hid (∀ W : World, Calls Tryz.prog 94 #[.int .i64 (j : Int)] W fun e w' => e = .returned (.string t) ∧ W = w') := fun W => ht ▸ powerWord_any hj2 hj16 W
    have htz : t.size ≤ 6 := by rw [← ht]; exact pwB_size j hj16 hj2
    have HV : Hid (showB p n (j : Int) = joinS [t, u]) := by
      unfold Hid showB
      rw [if_neg (by omega), if_neg h3, Int.toNat_natCast, ht, hu]
    have CJ : Hid (∀ W : World, Calls Tryz.prog 40 #[.slice (some ⟨W.heap.size, 0, none⟩) 2 2] (W.alloc (.cells #[.string t, .string u] 9)) (StrR (W.alloc (.cells #[.string t, .string u] 9)) (joinS [t, u]))) := fun W =>
      wjoin_any (lit_ssk W [t, u] 9) rfl (by omega) (by omega) (by rw [glue_two]; omega)
    have huv := khide hu
    clear h1 h2 h3 hW1 ht huz hj2 hj16 htz
    go_enter Tryz.func66, Tryz.ntmps66
    go_upto_region 1 with fail
    rw [← HW.out]
    go_upto_region 4 with fail
    rw [← hu]
    clear hu
    go_wp2_with (first | (go_at_call 94; (with_reducible refine (CW.out _).mono ?_); rintro e w1 ⟨rfl, rfl⟩) | (go_at_call 40; (with_reducible refine (CJ.out _).mono ?_); rintro e w2 ⟨rfl, hb⟩) | fail)
    go_ret
    exact ⟨by rw [HV.out]; rfl, (HB.al _).up hb⟩
end Go.Proofs.YthdpojkeceoiiaaGreatDoor
end
