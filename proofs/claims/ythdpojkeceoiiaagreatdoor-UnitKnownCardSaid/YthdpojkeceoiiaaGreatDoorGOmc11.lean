/- Several texts in one, each with its own sentence and conditions. -/
import Derived.Test.YthdpojkeceoiiaaGreatDoorGOmc4
import Derived.Test.YthdpojkeceoiiaaGreatDoorGOmc10
import Derived.Laws.BytesArg
import Derived.Deep.LoopGhost
import Derived.Test.YthdpojkeceoiiaaGreatDoorGOmc5
import Derived.Deep.RegionHeld3
section
/- Parse. Conditions: at most 100000 letters. -/
open Go.RowKit
set_option maxRecDepth 100000
namespace Go.Proofs.YthdpojkeceoiiaaGreatDoor
/-- What Parse leaves. -/
def ParsePost (w : World) (l : List UInt8) (e : Ending) (w' : World) : Prop :=
  if digB l = true then ∃ A c, e = .returned (.tuple #[.agg #[.slice A (dl (numL l)) c], .bool true]) ∧ Can w' w'.heap.size A c (numL l) ∧ Below w.heap.size w w'
  else e = .returned (.tuple #[.agg #[.slice none 0 0], .bool false]) ∧ Below w.heap.size w w'
theorem numL_drop (l : List UInt8) : numL (l.dropWhile (· == 48)) = numL l := by
  induction l with
  | nil => rfl
  | cons c l ih =>
    by_cases h : c = 48
    · subst h
      rw [show (48 :: l).dropWhile (· == (48 : UInt8)) = l.dropWhile (· == 48) from rfl, ih]
      rfl
    · rw [List.dropWhile_cons, if_neg (by simpa using h)]
theorem all_drop {l : List UInt8} (h : l.all isDig = true) : (l.dropWhile (· == 48)).all isDig = true := by
  rw [List.all_eq_true] at *
  exact fun c hc => h c ((List.dropWhile_sublist _).subset hc)
theorem len_drop (l : List UInt8) : (l.dropWhile (· == 48)).length ≤ l.length := (List.dropWhile_sublist _).length_le
theorem numL_append (l m : List UInt8) : numL (l ++ m) = numL l * 10 ^ m.length + numL m := by
  rw [show numL (l ++ m) = m.foldl (fun a c => a * 10 + (c.toNat - 48)) (numL l) by unfold numL; rw [List.foldl_append], fold_val, ← numL_val]
theorem own_made (w : World) (base cap : Nat) (hb : base ≤ w.heap.size) (hm : cap ≤ 1000000) : ∀ cur : Array Value, cur.size = cap → OwnG (w.alloc (.cells cur 73)) base w.heap.size cap [] := fun cur hs =>
  World.ownsRow_made w cur cap hb (by simp only [maxLen]; omega) (by omega)
theorem dl_le {m k : Nat} (h : m < W32 ^ k) : dl m ≤ k := by
  rcases Nat.eq_zero_or_pos m with rfl | h0
  · unfold dl; rw [digs_zero]; simp
  · have h1 := pow_le_of_digs (b := W32) (by decide) h0
    have h2 : W32 ^ (dl m - 1) < W32 ^ k := Nat.lt_of_le_of_lt h1 h
    have h3 := (Nat.pow_lt_pow_iff_right (a := W32) (by decide)).1 h2
    omega
set_option maxHeartbeats 1000000 in
theorem Parse_any (s : ByteArray) (w : World) (hs : s.size ≤ 100000) :
    Calls Tryz.prog 79 #[.string s] w (ParsePost w s.data.toList) := by
  have HSM : Hid (s.size ≤ maxLen) := by simp only [maxLen, Hid]; omega
  by_cases hd : digB s.data.toList = true
  · have HD := hide hd
    obtain ⟨l, hl⟩ : ∃ l, l = s.data.toList := ⟨_, rfl⟩
    have hall : l.all isDig = true := by rw [hl]; unfold digB at hd; simp only [Bool.and_eq_true] at hd; exact hd.2
    have HL := hide hl
    have HA := hide hall
    have hlen : l.length ≤ 100000 := by rw [hl]; exact hs
    obtain ⟨i0, hi0, hz0, hz1, hz2⟩ := info_parts Tryz.infoU32
    have I0 := hide hi0
    have Z0 := hide hz0
    have Z1 := hide hz1
    have Z2 := hide hz2
    clear hi0 hz0 hz1 hz2 hd hl hall hs
    go_enter Tryz.func79, Tryz.ntmps79
    go_wp2_with (first | (go_at_call 106; go_must (refine (isDigits_any s _ HSM.out).mono ?_); rintro e w' ⟨rfl, rfl⟩; have hdt := HD.out) | (go_at_call 33; go_must (refine (TrimLeft_any s _).mono ?_); rintro e w' ⟨t, rfl, ht, rfl⟩; have HT := hide ht; have htl : t.size ≤ 100000 := (by rw [size_list, ht]; exact Nat.le_trans (len_drop _) (by rw [← HL.out]; exact hlen)); clear ht hdt) | (at_make; go_must (refine wpList_make_own _ rfl _ _ 37 rfl (w.heap.size + 1) 73 i0 (.int .u32 0) 1 Tryz.underlying37 I0.out Z0.out Z1.out .i64 .i64 _ (t.size / 9 + 1) rfl rfl (by omega) (by rw [Z2.out]; omega) (by simp only [maxLen]; omega) (by simp) ?_; intro w1 hown hgr1)))
    have HBEL : Hid (Below w.heap.size w w1) := ((Below.refl _ _).alloc (Nat.le_refl _) _).grown hgr1 (by simp) (by intro k hk; cases hk)
    have HRES : Hid (w1.heap[w.heap.size]? = some (.cells #[.slice none 0 0] 39 (0, 0))) := (hgr1.block _ (by simp) (by simp)).trans (heap_alloc_new w _)
    have HOWN : Hid (OwnG w1 (w.heap.size + 1) (w.heap.size + 1) (t.size / 9 + 1) []) := by simpa [Hid, OwnG, OwnF] using hown
    have HALL : Hid (t.data.toList.all isDig = true) := by unfold Hid; rw [HT.out, ← HL.out]; exact all_drop HA.out
    have HNT : Hid (numL t.data.toList = numL l) := by unfold Hid; rw [HT.out, ← HL.out, numL_drop]
    clear hown hgr1
    go_loopw [4, 5] (fun sv wv wr => ∃ (u : ByteArray) (m g' cap' : Nat), sv = .string u ∧ wv = .slice (some ⟨g', 0, none⟩) (dl m) cap' ∧ u.size ≤ t.size ∧ dl m ≤ 100000 ∧ Hid (m = 0 ∨ u.size % 9 = 0) ∧ Hid (OwnG wr (w.heap.size + 1) g' cap' (digs W32 m)) ∧ Hid (Below (w.heap.size + 1) w1 wr) ∧
        Hid (u.data.toList.all isDig = true) ∧ Hid (m * 10 ^ u.size + numL u.data.toList = numL l))
      (fun sv _ _ => match sv with | .string u => u.size | _ => 0)
    case atStart => exact ⟨t, 0, w.heap.size + 1, t.size / 9 + 1, rfl, by first | rfl | (unfold dl; rw [digs_zero]; rfl), Nat.le_refl _, by unfold dl; rw [digs_zero]; simp, .inl rfl, by rw [digs_zero]; exact HOWN, Below.refl _ _, HALL, by unfold Hid; rw [HNT.out]; simp⟩
    case round =>
      obtain ⟨u, m, g', cap', rfl, rfl, hut, hdl, h9, hown, hbel, hall, hnum⟩ := hrel
      by_cases h0 : u.size = 0
      · have h1 : ¬ 0 < u.size := by omega
        have HZ := hide h0
        obtain ⟨hr3, hr4⟩ := one_cell ((hbel.out.block _ (by omega)).trans HRES.out)
        clear h0
        go_wp2
        refine bodyPost_ret (v := .tuple #[.agg #[.slice (some ⟨g', 0, none⟩) (dl m) cap'], .bool true]) (by simp [results, Tryz.results79, go_sem, hr3]) rfl ?_
        have hm : m = numL l := by
          have h2 := hnum.out
          rw [HZ.out, List.eq_nil_of_length_eq_zero (show u.data.toList.length = 0 from HZ.out)] at h2
          simpa [numL] using h2
        unfold ParsePost
        rw [← HL.out, if_pos (by rw [HL.out]; exact HD.out), ← hm]
        refine ⟨_, _, rfl, ?_, (HBEL.out.trans (hbel.out.mono (by omega))).setCell (by simp) _⟩
        exact hown.out.can (by have := hown.out.ge.1; simp; omega) _
      · have h1 : 0 < u.size := by omega
        clear h0
        obtain ⟨k, hk⟩ : ∃ k, k = (u.size - 1) % 9 + 1 := ⟨_, rfl⟩
        obtain ⟨v, hv⟩ : ∃ v, v = numL (u.data.toList.take k) := ⟨_, rfl⟩
        have hk9 : k ≤ 9 ∧ k ≤ u.size := by omega
        have htake : (u.data.toList.take k).all isDig = true := by
          rw [List.all_eq_true]; exact fun c hc => List.all_eq_true.1 hall.out c (List.mem_of_mem_take hc)
        have hv9 : v ≤ 999999999 := by
          have h2 := numL_lt _ htake
          rw [← hv, List.length_take] at h2
          have h3 : 10 ^ min k u.data.toList.length ≤ 10 ^ 9 := Nat.pow_le_pow_right (by omega) (by omega)
          omega
        have CV : Hid (Calls Tryz.prog 108 #[.string (u.extract 0 ((u.size - 1) % 9 + 1))] wr fun e w' => e = .returned (.int .u32 (v : Int)) ∧ wr = w') := by
          have he : (u.extract 0 ((u.size - 1) % 9 + 1)).data.toList = u.data.toList.take k := by rw [Lib.extract_data, List.drop_zero, Nat.sub_zero, hk]
          have h2 := valueOf_any (u.extract 0 ((u.size - 1) % 9 + 1)) wr (by rw [size_list, he, List.length_take]; omega) (by rw [he]; exact htake)
          rw [he, ← hv] at h2
          exact h2
        have HNEW : Hid ((m * 1000000000 + v) * 10 ^ (u.size - k) + numL (u.data.toList.drop k) = numL l) := by
          have h2 := numL_append (u.data.toList.take k) (u.data.toList.drop k)
          rw [List.take_append_drop, List.length_drop, ← hv] at h2
          have h3 := hnum.out
          rw [h2, size_list] at h3
          unfold Hid
          rw [Nat.add_mul, size_list, ← h3]
          rcases h9.out with rfl | h9
          · simp
          · have hk2 : k = 9 := by omega
            have h4 : 10 ^ u.data.toList.length = 1000000000 * 10 ^ (u.data.toList.length - k) := by
              rw [show (1000000000 : Nat) = 10 ^ 9 from rfl, ← Nat.pow_add]; congr 1; rw [← size_list]; omega
            rw [h4, Nat.mul_assoc]; omega
        have HDL : Hid (dl (m * 1000000000 + v) ≤ 100000) := by
          have h2 : m * 1000000000 + v ≤ numL l := by
            rw [← HNEW.out]
            exact Nat.le_trans (Nat.le_mul_of_pos_right _ (Nat.pow_pos (by omega))) (Nat.le_add_right _ _)
          have h3 := numL_lt l HA.out
          have h4 : 10 ^ l.length ≤ W32 ^ l.length := Nat.pow_le_pow_left (by decide) _
          exact Nat.le_trans (dl_le (Nat.lt_of_le_of_lt h2 (Nat.lt_of_lt_of_le h3 h4))) hlen
        have HK : Hid (k = (u.size - 1) % 9 + 1) := hk
        have hsz : u.size - k < u.size := by omega
        have hmod : (u.size - k) % 9 = 0 := by omega
        have HMOD := hide hmod
        have HEX : Hid ((u.extract ((u.size - 1) % 9 + 1) u.size).data.toList = u.data.toList.drop k) := by
          unfold Hid
          rw [Lib.extract_data, ← hk, List.take_of_length_le]
          rw [List.length_drop]; exact Nat.le_refl _
        have HALD : Hid ((u.data.toList.drop k).all isDig = true) := by
          unfold Hid
          rw [List.all_eq_true]; exact fun c hc => List.all_eq_true.1 hall.out c (List.mem_of_mem_drop hc)
        clear hk hv htake hmod
        go_wp2_with (first | (go_at_call 108; go_must (refine CV.out.mono ?_); rintro e w' ⟨rfl, rfl⟩) | (go_at_call 107; go_must (refine (appendGroup_any hown.out hv9 (by omega)).mono ?_); rintro e w2 ⟨g2, cap2, rfl, hown2, hbel2⟩))
        go_roundw
        case rel =>
          refine ⟨_, m * 1000000000 + v, g2, cap2, rfl, rfl, ?_, HDL.out, .inr ?_, hown2, hbel.out.trans hbel2.out, ?_, ?_⟩
          · rw [size_list, HEX.out, List.length_drop]; have := size_list u; omega
          · rw [size_list, HEX.out, List.length_drop]; exact HMOD.out
          · unfold Hid; rw [HEX.out]; exact HALD.out
          · unfold Hid; rw [HEX.out, size_list, HEX.out, List.length_drop]; exact HNEW.out
        case measure => simp; omega
  · have HD := hide hd
    have hdf : digB s.data.toList = false := by simpa using hd
    clear hd hs
    go_enter Tryz.func79, Tryz.ntmps79
    go_wp2_with (first | (go_at_call 106; go_must (refine (isDigits_any s _ HSM.out).mono ?_); rintro e w' ⟨rfl, rfl⟩))
    refine bodyPost_ret (v := .tuple #[.agg #[.slice none 0 0], .bool false]) (by simp [results, Tryz.results79, go_sem]) rfl ?_
    unfold ParsePost
    rw [if_neg HD.out]
    refine ⟨rfl, ?_⟩
    exact (Below.refl _ _).alloc (Nat.le_refl _) _
end Go.Proofs.YthdpojkeceoiiaaGreatDoor
end

section
/- slices.Reverse over bytes of the call's own. Conditions: at most 10000000 of them. -/
open Go.RowKit
set_option maxRecDepth 100000
namespace Go.Proofs.YthdpojkeceoiiaaGreatDoor
def RevPost (w : World) (base g cap : Nat) (xs : List Nat) (e : Ending) (w' : World) : Prop := e = .returned (.tuple #[]) ∧ OwnF U8 5 w' base g cap xs.reverse ∧ w.grownBy w' (some g)
set_option maxHeartbeats 1000000 in
theorem Reverse_any {base g cap n : Nat} {xs : List Nat} {w : World} (hn : n = xs.length) (h : OwnF U8 5 w base g cap xs) (hl : n ≤ 10000000) :
    Calls Tryz.prog 32 #[.slice (some ⟨g, 0, none⟩) n cap] w (RevPost w base g cap xs) := by
  have HN := hide hn
  have H := hide h
  clear hn h
  go_enter Tryz.func32, Tryz.ntmps32
  go_wp2
  go_loopw [2, 3] (fun iv jv wr => ∃ k j : Nat, ∃ cur : List Nat, k ≤ j ∧ j + k ≤ n ∧ n ≤ j + k ∧ iv = .int .i64 (k : Int) ∧ jv = .int .i64 ((j : Int) - 1) ∧ Hid (cur.length = n) ∧
      Hid (∀ x, x < n → cur[x]? = if x < k ∨ j ≤ x then xs[n - 1 - x]? else xs[x]?) ∧ Hid (OwnF U8 5 wr base g cap cur) ∧ Hid (w.grownBy wr (some g)))
    (fun _ jv _ => (intOf jv + 1).toNat)
  case atStart => exact ⟨0, n, xs, Nat.zero_le _, by omega, by omega, rfl, rfl, HN.out.symm, fun x hx => by rw [if_neg (by omega)], H, World.grownBy.refl _ _⟩
  case round =>
    obtain ⟨k, j, cur, hkj, hjk, hjk', rfl, rfl, hcl, hcur, hown, hgr⟩ := hrel
    by_cases hlt : k + 1 < j
    · obtain ⟨i, rfl⟩ : ∃ i, j = i + 1 := ⟨j - 1, by omega⟩
      have hkc : k < cur.length := by rw [hcl.out]; omega
      have hic : i < cur.length := by rw [hcl.out]; omega
      obtain ⟨a, ha⟩ : ∃ a, a = cur[k] := ⟨_, rfl⟩
      obtain ⟨b, hb⟩ : ∃ b, b = cur[i] := ⟨_, rfl⟩
      have hca : wr.cell? ⟨g, k, none⟩ = some (.int .u8 (a : Int)) := hown.out.cell (by rw [ha]; exact List.getElem?_eq_getElem hkc)
      have hcb : wr.cell? ⟨g, i, none⟩ = some (.int .u8 (b : Int)) := hown.out.cell (by rw [hb]; exact List.getElem?_eq_getElem hic)
      have hfa := hown.out.frozen k
      have hfb := hown.out.frozen i
      have hown1 : OwnF U8 5 (wr.setCell ⟨g, k, none⟩ (.int .u8 (b : Int))) base g cap (cur.set k b) := hown.out.set_ k b
      have hown2 : OwnF U8 5 (((wr.setCell ⟨g, k, none⟩ (.int .u8 (b : Int))).setCell ⟨g, i, none⟩ (.int .u8 (a : Int))).drew) base g cap ((cur.set k b).set i a) := hown1.set_ i a
      have hgr2 : w.grownBy (((wr.setCell ⟨g, k, none⟩ (.int .u8 (b : Int))).setCell ⟨g, i, none⟩ (.int .u8 (a : Int))).drew) (some g) := grown_drewN (grown_set (grown_set hgr.out _ _) _ _) 1
      have hnew : ∀ x, x < n → ((cur.set k b).set i a)[x]? = if x < k + 1 ∨ i ≤ x then xs[n - 1 - x]? else xs[x]? := by
        intro x hx
        have hkx := hcur.out k (by omega)
        have hix := hcur.out i (by omega)
        rw [if_neg (by omega), List.getElem?_eq_getElem hkc, ← ha] at hkx
        rw [if_neg (by omega), List.getElem?_eq_getElem hic, ← hb] at hix
        by_cases hxi : x = i
        · subst hxi
          rw [List.getElem?_set_self (by rw [List.length_set]; exact hic), if_pos (by omega), hkx]; congr 1; omega
        · rw [List.getElem?_set_ne (by omega)]
          by_cases hxk : x = k
          · subst hxk
            rw [List.getElem?_set_self hkc, if_pos (by omega), hix]; congr 1; omega
          · rw [List.getElem?_set_ne (by omega), hcur.out x hx]
            by_cases h3 : x < k ∨ i + 1 ≤ x
            · rw [if_pos h3, if_pos (by omega)]
            · rw [if_neg h3, if_neg (by omega)]
      have HNEW := hide hnew
      have HO2 := hide hown2
      have HG2 := hide hgr2
      clear ha hb hkc hic hown1 hown2 hgr2 hnew
      go_wp2_with fail
      go_region
      go_wp2
      go_roundw
      case rel => exact ⟨k + 1, i, (cur.set k b).set i a, by omega, by omega, by omega, by go_num, by first | rfl | (congr 1; omega), by unfold Hid; rw [List.length_set, List.length_set]; exact hcl.out, HNEW.out, HO2, HG2⟩
      case measure => simp [intOf]
    · have HE : Hid (cur = xs.reverse) := by
        unfold Hid
        apply List.ext_getElem?
        intro x
        rcases Nat.lt_or_ge x n with hx | hx
        · rw [hcur.out x hx, List.getElem?_reverse (by rw [← HN.out]; exact hx), ← HN.out]
          split
          · rfl
          · congr 1; omega
        · rw [List.getElem?_eq_none (by rw [hcl.out]; exact hx), List.getElem?_eq_none (by rw [List.length_reverse, ← HN.out]; exact hx)]
      go_wp2
      go_end0
      exact ⟨rfl, by rw [← HE.out]; exact hown.out, hgr.out⟩
end Go.Proofs.YthdpojkeceoiiaaGreatDoor
end

section
/- Text. Conditions: at most 100000 words. -/
open Go.RowKit
set_option maxRecDepth 100000
namespace Go.Proofs.YthdpojkeceoiiaaGreatDoor
/-- The letters of a number in base ten. -/
def decL (m : Nat) : List UInt8 := if m = 0 then [48] else (digs 10 m).reverse.map fun d => UInt8.ofNat (48 + d)
def TextPost (w : World) (m : Nat) (e : Ending) (w' : World) : Prop := ∃ t : ByteArray, e = .returned (.string t) ∧ t.data.toList = decL m ∧ Below w.heap.size w w'
def letter (d : Nat) : UInt8 := UInt8.ofNat (48 + d)
theorem letter_toNat {d : Nat} (h : d < 10) : (letter d).toNat = 48 + d := by unfold letter; rw [UInt8.toNat_ofNat']; omega
theorem letter_ne {d : Nat} (h : d < 10) (h0 : d ≠ 0) : (letter d == 48) = false := by
  rw [beq_eq_false_iff_ne]
  intro e
  have h1 := letter_toNat h
  rw [e] at h1
  have : (48 : UInt8).toNat = 48 := rfl
  omega
theorem drop_rep (k : Nat) (l : List UInt8) : (List.replicate k 48 ++ l).dropWhile (· == 48) = l.dropWhile (· == 48) := by
  induction k with
  | zero => rfl
  | succ k ih => rw [List.replicate_succ, List.cons_append]; exact ih
theorem text_end {dd : List Nat} {m : Nat} (hd : ∀ d ∈ dd, d < 10) (hv : val 10 dd = m) (hm : 0 < m) : ((dd.map letter).reverse).dropWhile (· == 48) = decL m := by
  obtain ⟨k, hk⟩ := exists_zeros (b := 10) (by omega) dd hd
  rw [hv] at hk
  have e : (dd.map letter).reverse = List.replicate k 48 ++ ((digs 10 m).reverse.map letter) := by
    rw [hk, List.map_append, List.reverse_append, List.map_replicate, List.reverse_replicate, ← List.map_reverse]; rfl
  rw [e, drop_rep]
  unfold decL
  rw [if_neg (by omega)]
  show ((digs 10 m).reverse.map letter).dropWhile (· == 48) = (digs 10 m).reverse.map letter
  cases hr : (digs 10 m).reverse with
  | nil => rfl
  | cons a l =>
    have h1 : (digs 10 m).getLast? = some a := by
      have : digs 10 m = (a :: l).reverse := by rw [← hr, List.reverse_reverse]
      rw [this, List.getLast?_reverse]; rfl
    have h2 := digs_last (b := 10) (by omega) m a h1
    have h3 : a < 10 := digs_lt (b := 10) (by omega) m a (List.mem_of_getLast? h1)
    rw [List.map_cons, List.dropWhile_cons, letter_ne h3 h2]; rfl
theorem text_conv {w : World} {base g cap n : Nat} {bs : List Nat} (h : OwnF U8 5 w base g cap bs) (hb : ∀ b ∈ bs, b < 256) (hn : n = bs.length) :
    (convert 72 9 (.slice (some ⟨g, 0, none⟩) n cap)).run Tryz.prog w = .ok (.string ⟨(bs.map UInt8.ofNat).toArray⟩) w := by
  subst hn
  have h1 := run_convert_bytes_back (P := Tryz.prog) w 72 9 5 ⟨g, 0, none⟩ cap (bs.map UInt8.ofNat) Tryz.underlying72 Tryz.underlying5 Tryz.underlying9 (fun j hj => by
    have hj' : j < bs.length := by simpa using hj
    have h2 := h.cell (List.getElem?_eq_getElem hj')
    have e : (⟨g, 0, none⟩ : Addr).add j = ⟨g, j, none⟩ := by unfold Addr.add; split <;> simp_all
    rw [e, h2]
    have h3 := hb _ (List.getElem_mem hj')
    simp [U8, List.getElem_map, UInt8.toNat_ofNat']
    omega)
  rwa [List.length_map] at h1
/-- Digits as the cells of letters. -/
def UD (d : Nat) : Value := .int .u8 ((48 + d : Nat) : Int)
def NewZero (w : World) (m : Nat) (e : Ending) (w' : World) : Prop := ∃ g, e = .returned (.slice (some ⟨g, 0, none⟩) 0 0) ∧ Hid (w.heap.size ≤ g) ∧ Hid (Blk U32 73 w' g (digs W32 m)) ∧ Hid (Below w.heap.size w w')
theorem fresh_zero {A : Option Addr} {m c : Nat} {w : World} (h : Rd U32 w w.heap.size A (digs W32 m)) (h0 : dl m = 0) : Calls Tryz.prog 29 #[.slice A 0 c] w (NewZero w m) := by
  have h1 := fresh_can (c := c) h (by omega)
  rw [h0] at h1
  exact h1.mono fun _ _ ⟨g, h2, h3⟩ => ⟨g, by rw [h2, h0], h3⟩
theorem text_trim {g k c : Nat} {L q : List Nat} {w : World} (hk : k ≤ c) (hq1 : Hid (q.length = k)) (hq2 : Hid (Good32 q)) (hq4 : Hid (Blk U32 73 w g (q ++ L.drop k))) (hc : c ≤ 1000000) :
    Hid (Calls Tryz.prog 30 #[.slice (some ⟨g, 0, none⟩) k c] w fun e w' => e = .returned (.slice (some ⟨g, 0, none⟩) (dl (val W32 q)) c) ∧ w = w') := by
  have h1 := hq4.out.rd hq4.out.lt 0 k
  rw [List.drop_zero, List.take_append_of_le_length (by rw [hq1.out]; exact Nat.le_refl _), List.take_of_length_le (by rw [hq1.out]; exact Nat.le_refl _)] at h1
  have h2 := trim_any _ q c w w.heap.size h1 hq2.out (by rw [hq1.out]; omega) (by rw [hq1.out]; exact hk)
  rw [hq1.out] at h2
  exact h2
theorem text_app {w wr w1 : World} {g n : Nat} {dv : Value} {xs : List Value} {B : List Nat} {o : Obj} (hown : wr.ownsRow (g + 1) 5 1 dv n xs) (hblk : Blk U32 73 wr g B) (hbel : Below w.heap.size w wr) (hg : w.heap.size ≤ g)
    (hgrow : (wr.alloc o).grownBy w1 dv.ownBlock) : Hid (Blk U32 73 w1 g B) ∧ Hid (Below w.heap.size w w1) := by
  have h1 : ∀ k, dv.ownBlock = some k → g + 1 ≤ k := fun k hk => (hown.lt k hk).1
  have h2 := hblk.lt
  refine ⟨(hblk.alloc o).grown hgrow (fun e => by have := h1 g e.symm; omega), (hbel.alloc (by omega) _).grown hgrow (by simp; omega) (fun k hk => by have := h1 k hk; omega)⟩
theorem map_snoc (dd : List Nat) (d : Nat) : dd.map UD ++ [UD d] = (dd ++ [d]).map UD := by simp
set_option maxHeartbeats 2000000 in
theorem Text_any {A : Option Addr} {n c m : Nat} {w : World} (h : Arg w w.heap.size A n c m) : Calls Tryz.prog 12 #[.agg #[.slice A n c]] w (TextPost w m) := by
  have H : Hid (∀ o, Arg (w.alloc o) w.heap.size A n c m) := fun o => h.below ((Below.refl _ _).alloc (Nat.le_refl _) _)
  have HX : Hid (∀ o, Rd U32 (w.alloc o) (w.alloc o).heap.size A (digs W32 m)) := fun o => (h.digs.1.below ((Below.refl _ _).alloc (Nat.le_refl _) _)).2.more (by simp)
  have hl : dl m ≤ 100000 := by have := h.digs.2; obtain ⟨_, _, _, h3, _⟩ := h; omega
  clear h
  by_cases h0 : dl m = 0
  · have HM0 : Hid (m = 0) := (digs_len_pos (by decide)).1 h0
    go_enter Tryz.func12, Tryz.ntmps12
    go_wp2_with (first | (go_at_call 30; go_must (refine (trim_arg (H.out _)).mono ?_); rintro e w2 ⟨rfl, rfl⟩) | (go_at_call 29; go_must (refine (fresh_zero (HX.out _) h0).mono ?_); rintro e w1 ⟨g, rfl, HGE, HBLK, HBEL⟩))
    go_ret
    exact ⟨⟨#[48]⟩, rfl, by rw [HM0.out]; rfl, ((Below.refl _ _).alloc (Nat.le_refl _) _).trans (HBEL.out.mono (by simp))⟩
  · obtain ⟨i0, hi0, hz0, hz1, hz2⟩ := info_parts Tryz.infoU8
    have I0 := hide hi0
    have Z0 := hide hz0
    have Z1 := hide hz1
    have Z2 := hide hz2
    clear hi0 hz0 hz1 hz2
    have hp : 0 < dl m := by omega
    have hdz : (((dl m : Nat) : Int) == 0) = false := by rw [beq_eq_false_iff_ne]; omega
    have HM : Hid (0 < m) := by
      unfold Hid
      rcases Nat.eq_zero_or_pos m with rfl | h1
      · exact absurd (by unfold dl; rw [digs_zero]; rfl) h0
      · exact h1
    clear h0
    go_enter Tryz.func12, Tryz.ntmps12
    go_wp2_with (first | (go_at_call 30; go_must (refine (trim_arg (H.out _)).mono ?_); rintro e w2 ⟨rfl, rfl⟩) | (go_at_call 29; go_must (refine (fresh_can (HX.out _) (by omega)).mono ?_); rintro e w1 ⟨g, rfl, HGE, HBLK, HBEL⟩))
    have HW1 : Hid (Below w.heap.size w w1) := ((Below.refl _ _).alloc (Nat.le_refl _) _).trans (HBEL.out.mono (by simp))
    have hgw : w.heap.size + 1 ≤ g := by have := HGE.out; simpa using this
    clear HBEL HGE H HX
    have hp' : ¬ dl m = 0 := by omega
    have HLEN : Hid (dl m = (digs W32 m).length) := rfl
    go_loopg [3, 4, 5] m (fun K lv dv gv wr => ∃ (v : Nat) (L dd : List Nat), v ≤ K ∧ lv = .slice (some ⟨g, 0, none⟩) (dl v) (dl m) ∧ dl v ≤ dl m ∧ Hid (L.length = dl m) ∧ Hid (Good32 L) ∧ Hid (L.take (dl v) = digs W32 v) ∧ Hid (Blk U32 73 wr g L) ∧
        Hid (wr.ownsRow (g + 1) 5 1 dv dd.length (dd.map UD)) ∧ Hid (∀ d ∈ dd, d < 10) ∧ Hid (val 10 dd + 10 ^ dd.length * v = m) ∧ dd.length ≤ 10 * dl m + 9 ∧ Hid (Below w.heap.size w wr))
    case atStart => exact ⟨m, digs W32 m, [], Nat.le_refl _, rfl, Nat.le_refl _, rfl, good_digs m, List.take_of_length_le (Nat.le_refl _), HBLK, World.ownsRow_nil _ _ _ _, by intro d hd; simp at hd, by simp [Hid, val], by simp, HW1⟩
    case round =>
      obtain ⟨v, L, dd, hvk, rfl, hdl, hLl, hLg, hLt, hblk, hown, hdd, hnum, hlen, hbel⟩ := hrel
      by_cases hv0 : dl v = 0
      · have HV0 : Hid (v = 0) := (digs_len_pos (by decide)).1 hv0
        have HNE : Hid (val 10 dd = m) := by have h1 := hnum.out; rw [HV0.out] at h1; simpa [Hid] using h1
        have hvz : ¬ 0 < dl v := by omega
        have hown2 := hown.out
        rcases hown2.2 with ⟨_, hz⟩ | ⟨g2, cap, cur, rfl, _⟩
        · have := HNE.out
          rw [List.eq_nil_of_length_eq_zero hz] at this
          have := HM.out
          simp [val] at *; omega
        · have HOF : Hid (OwnF U8 5 wr (g + 1) g2 cap (dd.map (48 + ·))) := by
            unfold Hid OwnF
            rw [List.length_map, List.map_map]
            exact hown2
          have HLD : Hid (dd.length = (dd.map (48 + ·)).length) := by simp [Hid]
          have H256 : Hid (∀ b ∈ (dd.map (48 + ·)).reverse, b < 256) := by
            intro b hb
            obtain ⟨d, hd, rfl⟩ := List.mem_map.1 (List.mem_reverse.1 hb)
            have := hdd.out d hd; omega
          obtain ⟨s, hs⟩ : ∃ s : ByteArray, s = ⟨(((dd.map (48 + ·)).reverse).map UInt8.ofNat).toArray⟩ := ⟨_, rfl⟩
          have HS : Hid (s.data.toList.dropWhile (· == 48) = decL m) := by
            unfold Hid
            rw [hs, ← text_end hdd.out HNE.out HM.out]
            show ((((dd.map (48 + ·)).reverse).map UInt8.ofNat)).dropWhile _ = _
            rw [List.map_reverse, List.map_map]; rfl
          have hcvs : ∀ w3, OwnF U8 5 w3 (g + 1) g2 cap (dd.map (48 + ·)).reverse → (convert 72 9 (.slice (some ⟨g2, 0, none⟩) dd.length cap)).run Tryz.prog w3 = .ok (.string s) w3 := fun w3 h3 => by
            rw [hs]; exact text_conv h3 H256.out (by simp)
          have HCV := hide hcvs
          clear hown2 hv0 hs hcvs
          go_wp2_with (first | (go_at_call 32; go_must (refine (Reverse_any HLD.out HOF.out (by omega)).mono ?_); rintro e w3 ⟨rfl, ho3, hg3⟩; have HG3 := hide hg3; have hcv := HCV.out w3 ho3; clear hg3 ho3) | (go_at_call 33; go_must (refine (TrimLeft_any s _).mono ?_); rintro e w' ⟨t, rfl, ht, rfl⟩; have HT := hide ht; clear ht))
          go_ret
          exact ⟨t, rfl, by rw [HT.out, HS.out], hbel.out.trans (grown_below HG3.out (by have := HOF.out.ge.1; omega) HOF.out.ge.2)⟩
      · have hvp : 0 < dl v := by omega
        have HVP : Hid (0 < v) := by
          unfold Hid
          rcases Nat.eq_zero_or_pos v with rfl | h1
          · exact absurd (by unfold dl; rw [digs_zero]; rfl) hv0
          · exact h1
        have hlen2 : dd.length < 10 * dl m := by
          have h1 : 10 ^ dd.length ≤ m := by
            rw [← hnum.out]
            exact Nat.le_trans (Nat.le_mul_of_pos_right _ HVP.out) (Nat.le_add_left _ _)
          have h2 : m < W32 ^ dl m := lt_pow_digs (b := W32) (by decide) m
          have h3 : W32 ^ dl m ≤ (10 ^ 10) ^ dl m := Nat.pow_le_pow_left (by decide) _
          rw [← Nat.pow_mul] at h3
          exact (Nat.pow_lt_pow_iff_right (a := 10) (by omega)).1 (by omega)
        clear hv0
        go_wp2_with (first | (go_at_call 31; go_must (refine (divideByWord_any (d := 1000000000) hblk.out (by rw [hLl.out]; exact hdl) hLg.out (by omega) (by omega) (by omega)).mono ?_); rintro e w2 ⟨q, rest, rfl, hq1, hq2, hrest, hq3, hq4, hq5⟩; have HQ5 := hide hq5; clear hq5; have CT := text_trim hdl hq1 hq2 hq4 (by omega)) | (go_at_call 30; go_must (refine CT.out.mono ?_); rintro e w3 ⟨rfl, rfl⟩))
        obtain ⟨v', hv'⟩ : ∃ v', v' = val W32 q := ⟨_, rfl⟩
        rw [← hv']
        have HV' := hide hv'
        have HEQ : Hid (v = v' * 1000000000 + rest) := by
          have h1 := hq3.out
          rw [hLt.out, val_digs32, ← hv'] at h1
          exact h1
        have HB2 : Hid (Below w.heap.size w w2) := hbel.out.trans (grown_below HQ5.out (by omega) hblk.out.lt)
        have HO2 : Hid (w2.ownsRow (g + 1) 5 1 u4 dd.length (dd.map UD)) := hown.out.kept HQ5.out (by
          rcases hv : u4.ownBlock with _ | k
          · exact .inl rfl
          · refine .inr (fun e => ?_)
            have := (hown.out.lt k hv).1
            injection e with e; omega)
        have hr9 : rest ≤ 999999999 := by omega
        clear hv' hown hbel hblk
        go_loopw [4, 5, 20] (fun dv gv jv wr => ∃ (j gr : Nat) (de : List Nat), j ≤ 9 ∧ gr ≤ 999999999 ∧ Hid (gr < 10 ^ (9 - j)) ∧ gv = .int .u32 (gr : Int) ∧ jv = .int .i64 (j : Int) ∧ Hid (de.length = dd.length + j) ∧ Hid (wr.ownsRow (g + 1) 5 1 dv de.length (de.map UD)) ∧ Hid (∀ d ∈ de, d < 10) ∧
            Hid (val 10 de + 10 ^ de.length * (gr + 10 ^ (9 - j) * v') = m) ∧ Hid (Blk U32 73 wr g (q ++ L.drop (dl v))) ∧ Hid (Below w.heap.size w wr))
          (fun _ _ jv _ => 9 - (intOf jv).toNat)
        case atStart => exact ⟨0, rest, dd, by omega, hr9, hrest, rfl, rfl, rfl, HO2, hdd, by have h1 := hnum.out; rw [HEQ.out] at h1; rw [← h1]; unfold Hid; congr 2; omega, hq4, HB2⟩
        case round =>
          obtain ⟨j, gr, de, hj, hgr, hgl, rfl, rfl, hdl2, hown, hdd2, hnum2, hblk, hbel⟩ := hrel
          by_cases hlt : j < 9
          · have HBE : Hid (g + 1 ≤ (wr.alloc (.cells #[.int .u8 (48 + (gr : Int) % 10)] 5)).heap.size) := by have := hblk.out.lt; simp [Hid]; omega
            have hde : de.length ≤ 2000000 := by rw [hdl2.out]; omega
            have h63 : de.length + 1 ≤ maxLen := by simp only [maxLen]; omega
            have H63 := hide h63
            clear h63
            go_wp2_with (first | (at_builtin; go_must (refine wpList_append_own _ rfl (.tmp 22) (.tmp 27) 72 rfl (g + 1) 5 i0 (.int .u8 0) 1 1 Tryz.underlying72 I0.out Z0.out Z1.out Z2.out rfl (by decide) _ _ _ rfl (hown.out.alloc _) ⟨wr.heap.size, 0, none⟩ 1 1 [.int .u8 (48 + (gr : Int) % 10)] rfl rfl (cell_one_new _ _ _) (by intro u hu; simp at hu; subst hu; rfl) H63.out (by omega) HBE.out ?_; intro v2 w3 hown' hgrow hnil)))
            obtain ⟨hbk2, hbe2⟩ := text_app hown.out hblk.out hbel.out (by omega) hgrow
            go_roundw
            case rel =>
              refine ⟨j + 1, gr / 10, de ++ [gr % 10], by omega, by omega, ?_, rfl, by go_num, by unfold Hid; rw [List.length_append, hdl2.out]; rfl, ?_, ?_, ?_, hbk2, hbe2⟩
              · unfold Hid
                have h1 := hgl.out
                rw [show 9 - j = (9 - (j + 1)) + 1 by omega, Nat.pow_succ] at h1
                exact (Nat.div_lt_iff_lt_mul (by omega)).2 h1
              · unfold Hid
                rw [List.length_append, ← map_snoc]
                exact hown'
              · intro d hd
                rcases List.mem_append.1 hd with hd | hd
                · exact hdd2.out d hd
                · simp at hd; omega
              · unfold Hid
                rw [val_snoc, List.length_append, List.length_singleton, Nat.pow_succ]
                refine digit_math ?_
                have h1 := hnum2.out
                rw [show 9 - j = (9 - (j + 1)) + 1 by omega, Nat.pow_succ, Nat.mul_comm (10 ^ (9 - (j + 1))) 10] at h1
                exact h1
            case measure => simp [intOf]; omega
          · obtain rfl : j = 9 := by omega
            have HG0 : Hid (gr = 0) := by have := hgl.out; unfold Hid; simpa using this
            have HN2 : Hid (val 10 de + 10 ^ de.length * v' = m) := by
              have h1 := hnum2.out
              rw [HG0.out] at h1
              simpa [Hid] using h1
            have HVL : Hid (v' < v) := by have := HEQ.out; have := HVP.out; unfold Hid; omega
            have HDV : Hid (dl v' ≤ dl v) := digs_len_mono (by decide) (Nat.le_of_lt HVL.out)
            go_wp2
            go_roundg v'
            case measure => have := HVL.out; omega
            case rel =>
              refine ⟨v', q ++ L.drop (dl v), de, Nat.le_refl _, rfl, Nat.le_trans HDV.out hdl, ?_, good_app hq2.out (good_drop hLg.out _), ?_, hblk, hown, hdd2, HN2, by rw [hdl2.out]; omega, hbel⟩
              · unfold Hid
                rw [List.length_append, hq1.out, List.length_drop, hLl.out]; omega
              · unfold Hid
                have h1 := digs_take (b := W32) (by decide) q hq2.out
                rw [← HV'.out] at h1
                rw [List.take_append_of_le_length (by rw [hq1.out]; exact HDV.out)]
                exact h1
end Go.Proofs.YthdpojkeceoiiaaGreatDoor
end

section
/- Words for 'is': validity of a number's own words, comparing with 0. No conditions. -/
open Go.RowKit
set_option maxRecDepth 100000
namespace Go.Proofs.YthdpojkeceoiiaaGreatDoor
theorem goodB_digs (m : Nat) : goodB (digs W32 m) = true := by
  unfold goodB
  rw [bne_iff_ne]
  intro h
  exact digs_last (b := W32) (by decide) m 0 h rfl
theorem cmpI_beq (m n : Nat) : (cmpI m n == 0) = decide (m = n) := by
  rcases Nat.lt_trichotomy m n with h | h | h
  · rw [cmpI_lt h, decide_eq_false (by omega)]; rfl
  · rw [cmpI_eq h, decide_eq_true h]; rfl
  · rw [cmpI_gt h, decide_eq_false (by omega)]; rfl
theorem chain {w a b : World} (h : Hid (Below w.heap.size w a)) (hb : Below a.heap.size a b) : Hid (Below w.heap.size w b) := h.out.trans (hb.mono h.out.size)
end Go.Proofs.YthdpojkeceoiiaaGreatDoor
end

section
/- Sub: the difference. Conditions: at most 100000 words each. -/
open Go.RowKit
set_option maxRecDepth 100000
namespace Go.Proofs.YthdpojkeceoiiaaGreatDoor
/-- What Sub leaves. -/
def SubPost (w : World) (m m' : Nat) (e : Ending) (w' : World) : Prop :=
  if m' ≤ m then ∃ A c, e = .returned (.tuple #[.agg #[.slice A (dl (m - m')) c], .bool true]) ∧ Can w' w'.heap.size A c (m - m') ∧ Below w.heap.size w w'
  else e = .returned (.tuple #[.agg #[.slice none 0 0], .bool false]) ∧ Below w.heap.size w w'
end Go.Proofs.YthdpojkeceoiiaaGreatDoor
end

section
/- Words for statements: arguments that tell numbers in every later world; cells of a statement's own variables kept through calls. No conditions. -/
open Go.RowKit
set_option maxRecDepth 100000
namespace Go.Proofs.YthdpojkeceoiiaaGreatDoor
theorem keep4 {w W W' : World} {b : Nat} {v0 v1 v2 : Value} (hb : Hid (Below W.heap.size W W'))
    (h : W.cell? ⟨b, 0, none⟩ = some v0 ∧ W.cell? ⟨b + 1, 0, none⟩ = some v1 ∧ W.cell? ⟨b + 1 + 1, 0, none⟩ = some v2 ∧ Below w.heap.size w W ∧ b + 3 ≤ W.heap.size) :
    W'.cell? ⟨b, 0, none⟩ = some v0 ∧ W'.cell? ⟨b + 1, 0, none⟩ = some v1 ∧ W'.cell? ⟨b + 1 + 1, 0, none⟩ = some v2 ∧ Below w.heap.size w W' ∧ b + 3 ≤ W'.heap.size := by
  obtain ⟨h0, h1, h2, h3, h4⟩ := h
  have hs := hb.out.size
  exact ⟨(hb.out.cell (by simp; omega)).trans h0, (hb.out.cell (by simp; omega)).trans h1, (hb.out.cell (by simp; omega)).trans h2, h3.trans (hb.out.mono h3.size), by omega⟩
theorem start4 {w wa : World} {v0 v1 v2 : Value} {t : TypeId} (h : Hid (Below w.heap.size w wa)) :
    (((wa.alloc (.cells #[v0] t)).alloc (.cells #[v1] t)).alloc (.cells #[v2] t)).cell? ⟨wa.heap.size, 0, none⟩ = some v0 ∧
    (((wa.alloc (.cells #[v0] t)).alloc (.cells #[v1] t)).alloc (.cells #[v2] t)).cell? ⟨wa.heap.size + 1, 0, none⟩ = some v1 ∧
    (((wa.alloc (.cells #[v0] t)).alloc (.cells #[v1] t)).alloc (.cells #[v2] t)).cell? ⟨wa.heap.size + 1 + 1, 0, none⟩ = some v2 ∧
    Below w.heap.size w (((wa.alloc (.cells #[v0] t)).alloc (.cells #[v1] t)).alloc (.cells #[v2] t)) ∧ wa.heap.size + 3 ≤ (((wa.alloc (.cells #[v0] t)).alloc (.cells #[v1] t)).alloc (.cells #[v2] t)).heap.size := by
  have b1 : (wa.alloc (.cells #[v0] t)).heap[wa.heap.size]? = some (.cells #[v0] t (0, 0)) := heap_alloc_new wa _
  have b2 : ((wa.alloc (.cells #[v0] t)).alloc (.cells #[v1] t)).heap[wa.heap.size + 1]? = some (.cells #[v1] t (0, 0)) := by simpa using heap_alloc_new (wa.alloc (.cells #[v0] t)) (.cells #[v1] t)
  have b3 : (((wa.alloc (.cells #[v0] t)).alloc (.cells #[v1] t)).alloc (.cells #[v2] t)).heap[wa.heap.size + 1 + 1]? = some (.cells #[v2] t (0, 0)) := by simpa using heap_alloc_new ((wa.alloc (.cells #[v0] t)).alloc (.cells #[v1] t)) (.cells #[v2] t)
  have c1 : (((wa.alloc (.cells #[v0] t)).alloc (.cells #[v1] t)).alloc (.cells #[v2] t)).heap[wa.heap.size]? = some (.cells #[v0] t (0, 0)) :=
    (Below.heap_alloc _ _ _ (by simp; omega)).trans ((Below.heap_alloc _ _ _ (by simp)).trans b1)
  have c2 : (((wa.alloc (.cells #[v0] t)).alloc (.cells #[v1] t)).alloc (.cells #[v2] t)).heap[wa.heap.size + 1]? = some (.cells #[v1] t (0, 0)) := (Below.heap_alloc _ _ _ (by simp)).trans b2
  have hs := h.out.size
  exact ⟨(one_cell c1).1, (one_cell c2).1, (one_cell b3).1, ((h.out.alloc hs _).alloc (by simp; omega) _).alloc (by simp; omega) _, by simp⟩
theorem drew4 {w W : World} {b : Nat} {v0 v1 v2 : Value}
    (h : W.cell? ⟨b, 0, none⟩ = some v0 ∧ W.cell? ⟨b + 1, 0, none⟩ = some v1 ∧ W.cell? ⟨b + 1 + 1, 0, none⟩ = some v2 ∧ Below w.heap.size w W ∧ b + 3 ≤ W.heap.size) :
    W.drew.cell? ⟨b, 0, none⟩ = some v0 ∧ W.drew.cell? ⟨b + 1, 0, none⟩ = some v1 ∧ W.drew.cell? ⟨b + 1 + 1, 0, none⟩ = some v2 ∧ Below w.heap.size w W.drew ∧ b + 3 ≤ W.drew.heap.size :=
  ⟨h.1, h.2.1, h.2.2.1, h.2.2.2.1.drew, h.2.2.2.2⟩
theorem alloc4 {w W : World} {b : Nat} {v0 v1 v2 : Value} (o : Obj)
    (h : W.cell? ⟨b, 0, none⟩ = some v0 ∧ W.cell? ⟨b + 1, 0, none⟩ = some v1 ∧ W.cell? ⟨b + 1 + 1, 0, none⟩ = some v2 ∧ Below w.heap.size w W ∧ b + 3 ≤ W.heap.size) :
    (W.alloc o).cell? ⟨b, 0, none⟩ = some v0 ∧ (W.alloc o).cell? ⟨b + 1, 0, none⟩ = some v1 ∧ (W.alloc o).cell? ⟨b + 1 + 1, 0, none⟩ = some v2 ∧ Below w.heap.size w (W.alloc o) ∧ b + 3 ≤ (W.alloc o).heap.size := by
  have hb : Hid (Below W.heap.size W (W.alloc o)) := (Below.refl _ _).alloc (Nat.le_refl _) _
  exact keep4 hb h
theorem below4 {w W : World} {b : Nat} {v0 v1 v2 : Option Value} {a0 a1 a2 : Addr} (h : W.cell? a0 = v0 ∧ W.cell? a1 = v1 ∧ W.cell? a2 = v2 ∧ Below w.heap.size w W ∧ b ≤ W.heap.size) : Below w.heap.size w W := h.2.2.2.1
theorem cmpI_bd (a b : Nat) : -1 ≤ cmpI a b ∧ cmpI a b ≤ 1 := by
  rcases Nat.lt_trichotomy a b with h | h | h
  · rw [cmpI_lt h]; omega
  · rw [cmpI_eq h]; omega
  · rw [cmpI_gt h]; omega
theorem cmpI_le {a b : Nat} : cmpI a b ≤ 0 ↔ a ≤ b := by
  rcases Nat.lt_trichotomy a b with h | h | h
  · rw [cmpI_lt h]; omega
  · rw [cmpI_eq h]; omega
  · rw [cmpI_gt h]; omega
theorem cmpI_neg (a b : Nat) : cmpI a b = -cmpI b a := by
  rcases Nat.lt_trichotomy a b with h | h | h
  · rw [cmpI_lt h, cmpI_gt h]
  · rw [cmpI_eq h, cmpI_eq h.symm]; rfl
  · rw [cmpI_gt h, cmpI_lt h]; rfl
/-- A number that came in, in every later world. -/
def Later (w : World) (A : Option Addr) (l c m : Nat) : Prop := ∀ W, Below w.heap.size w W → Arg W W.heap.size A l c m
theorem later_of {w : World} {A : Option Addr} {l c : Nat} {z : List Nat} (h : l = z.length ∧ l ≤ c ∧ Rd U32 w w.heap.size A z ∧ Good32 z) (hl : l ≤ 100000) : Later w A l c (val W32 z) := fun _ hb =>
  ⟨z, h.1, h.2.1, hl, (h.2.2.1.below hb).more hb.size, h.2.2.2, rfl⟩
def IntPost (W : World) (v : Int) (e : Ending) (w' : World) : Prop := e = .returned (.int .i64 v) ∧ Hid (Below W.heap.size W w')
theorem cmp_later {w W : World} {A A' : Option Addr} {l l' c c' m m' : Nat} {v : Int} (h : Later w A l c m) (h' : Later w A' l' c' m') (hv : cmpI m m' = v) (hb : Below w.heap.size w W) :
    Calls Tryz.prog 39 #[.agg #[.slice A l c], .agg #[.slice A' l' c']] W (IntPost W v) := by
  subst hv
  exact (Cmp_any (h W hb) (h' W hb)).mono fun _ _ h => h
theorem add_later {w W : World} {A A' : Option Addr} {l l' c c' m m' : Nat} (h : Later w A l c m) (h' : Later w A' l' c' m') (hb : Below w.heap.size w W) :
    Calls Tryz.prog 27 #[.agg #[.slice A l c], .agg #[.slice A' l' c']] W fun e w' => ∃ A2 c2, e = .returned (.agg #[.slice A2 (dl (m + m')) c2]) ∧ Hid (Can w' w'.heap.size A2 c2 (m + m')) ∧ Hid (Below W.heap.size W w') :=
  (Add_any (h W hb) (h' W hb)).mono fun _ _ h => h
theorem val_lt24 {z : List Nat} {l : Nat} (hg : Good32 z) (hl : l = z.length) (h : l ≤ 24) : val W32 z < W32 ^ 24 :=
  Nat.lt_of_lt_of_le (val_lt z hg) (Nat.pow_le_pow_right (by decide) (by omega))
end Go.Proofs.YthdpojkeceoiiaaGreatDoor
end

section
/- Gcd of any two numbers. Conditions: less than 100000 words. -/
open Go.RowKit
set_option maxRecDepth 100000
namespace Go.Proofs.YthdpojkeceoiiaaGreatDoor
/-- What a call leaves that returns a number, hidden. -/
def NumH2 (w : World) (v : Nat) (e : Ending) (w' : World) : Prop := ∃ A c, e = .returned (.agg #[.slice A (dl v) c]) ∧ Hid (Can w' w'.heap.size A c v) ∧ Hid (Below w.heap.size w w')
theorem gcd_step (X Y : Nat) : Nat.gcd Y (X % Y) = Nat.gcd X Y := by
  rw [Nat.gcd_comm X Y, Nat.gcd_rec Y X, Nat.gcd_comm]
theorem keep5 {w W W' : World} {b : Nat} {v0 v1 v2 : Value} (hb : Hid (Below W.heap.size W W'))
    (h : W.cell? ⟨b, 0, none⟩ = some v0 ∧ W.cell? ⟨b + 1, 0, none⟩ = some v1 ∧ W.cell? ⟨b + 1 + 1, 0, none⟩ = some v2 ∧ W.frozen? ⟨b + 1 + 1, 0, none⟩ = false ∧ Below w.heap.size w W ∧ b + 3 ≤ W.heap.size) :
    W'.cell? ⟨b, 0, none⟩ = some v0 ∧ W'.cell? ⟨b + 1, 0, none⟩ = some v1 ∧ W'.cell? ⟨b + 1 + 1, 0, none⟩ = some v2 ∧ W'.frozen? ⟨b + 1 + 1, 0, none⟩ = false ∧ Below w.heap.size w W' ∧ b + 3 ≤ W'.heap.size := by
  obtain ⟨h0, h1, h2, hf, h3, h4⟩ := h
  have hs := hb.out.size
  exact ⟨(hb.out.cell (by simp; omega)).trans h0, (hb.out.cell (by simp; omega)).trans h1, (hb.out.cell (by simp; omega)).trans h2, (hb.out.frozen (by simp; omega)).trans hf, h3.trans (hb.out.mono h3.size), by omega⟩
theorem start5 {w wa : World} {v0 v1 v2 : Value} {t : TypeId} (h : Hid (Below w.heap.size w wa)) :
    (((wa.alloc (.cells #[v0] t)).alloc (.cells #[v1] t)).alloc (.cells #[v2] t)).drew.cell? ⟨wa.heap.size, 0, none⟩ = some v0 ∧
    (((wa.alloc (.cells #[v0] t)).alloc (.cells #[v1] t)).alloc (.cells #[v2] t)).drew.cell? ⟨wa.heap.size + 1, 0, none⟩ = some v1 ∧
    (((wa.alloc (.cells #[v0] t)).alloc (.cells #[v1] t)).alloc (.cells #[v2] t)).drew.cell? ⟨wa.heap.size + 1 + 1, 0, none⟩ = some v2 ∧
    (((wa.alloc (.cells #[v0] t)).alloc (.cells #[v1] t)).alloc (.cells #[v2] t)).drew.frozen? ⟨wa.heap.size + 1 + 1, 0, none⟩ = false ∧
    Below w.heap.size w (((wa.alloc (.cells #[v0] t)).alloc (.cells #[v1] t)).alloc (.cells #[v2] t)).drew ∧ wa.heap.size + 3 ≤ (((wa.alloc (.cells #[v0] t)).alloc (.cells #[v1] t)).alloc (.cells #[v2] t)).drew.heap.size := by
  obtain ⟨a0, a1, a2, a3, a4⟩ := drew4 (start4 (v0 := v0) (v1 := v1) (v2 := v2) (t := t) h)
  have b3 : (((wa.alloc (.cells #[v0] t)).alloc (.cells #[v1] t)).alloc (.cells #[v2] t)).heap[wa.heap.size + 1 + 1]? = some (.cells #[v2] t (0, 0)) := by simpa using heap_alloc_new ((wa.alloc (.cells #[v0] t)).alloc (.cells #[v1] t)) (.cells #[v2] t)
  exact ⟨a0, a1, a2, (one_cell b3).2, a3, a4⟩
theorem below5 {w W : World} {b : Nat} {f : Prop} {v0 v1 v2 : Option Value} {a0 a1 a2 : Addr} (h : W.cell? a0 = v0 ∧ W.cell? a1 = v1 ∧ W.cell? a2 = v2 ∧ f ∧ Below w.heap.size w W ∧ b ≤ W.heap.size) : Below w.heap.size w W := h.2.2.2.2.1
theorem box3 (w : World) (o1 o2 : Obj) (v : Value) (t : TypeId) : ((w.alloc o1).alloc o2).alloc (.cells #[v] t) = ((((w.alloc o1).alloc o2).alloc (.cells #[v] t)).drewN 0) := rfl
end Go.Proofs.YthdpojkeceoiiaaGreatDoor
end
