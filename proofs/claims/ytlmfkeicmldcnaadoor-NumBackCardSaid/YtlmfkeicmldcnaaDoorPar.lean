/- Parse. Conditions: at most 100000 letters. -/
import Derived.Test.YtlmfkeicmldcnaaDoorApg
import Derived.Test.YtlmfkeicmldcnaaDoorStr
open Go.RowKit
set_option maxRecDepth 100000
namespace Go.Proofs.YtlmfkeicmldcnaaDoor
/-- What Parse leaves. -/
def ParsePost (w : World) (l : List UInt8) (e : Ending) (w' : World) : Prop :=
  if digB l = true then ∃ A c, e = .returned (.tuple #[.agg #[.slice A (dl (numL l)) c], .bool true]) ∧ Can w' w'.heap.size A c (numL l) ∧ Below w.heap.size w w'
  else e = .returned (.tuple #[.agg #[.slice none 0 0], .bool false]) ∧ Below w.heap.size w w'
theorem numL_drop (l : List UInt8) : numL (l.dropWhile (· == 48)) = numL l := by
  induction l with
  | nil => rfl
  | cons c l ih =>
    by_cases h : c = 48
    · subst h
      rw [show (48 :: l).dropWhile (· == (48 : UInt8)) = l.dropWhile (· == 48) from rfl, ih]
      rfl
    · rw [List.dropWhile_cons, if_neg (by simpa using h)]
theorem all_drop {l : List UInt8} (h : l.all isDig = true) : (l.dropWhile (· == 48)).all isDig = true := by
  rw [List.all_eq_true] at *
  exact fun c hc => h c ((List.dropWhile_sublist _).subset hc)
theorem len_drop (l : List UInt8) : (l.dropWhile (· == 48)).length ≤ l.length := (List.dropWhile_sublist _).length_le
theorem numL_append (l m : List UInt8) : numL (l ++ m) = numL l * 10 ^ m.length + numL m := by
  rw [show numL (l ++ m) = m.foldl (fun a c => a * 10 + (c.toNat - 48)) (numL l) by unfold numL; rw [List.foldl_append], fold_val, ← numL_val]
theorem own_made (w : World) (base cap : Nat) (hb : base ≤ w.heap.size) (hm : cap ≤ 1000000) : ∀ cur : Array Value, cur.size = cap → OwnG (w.alloc (.cells cur 30)) base w.heap.size cap [] := fun cur hs =>
  World.ownsRow_made w cur cap hb (by simp only [maxLen]; omega) (by omega)
theorem dl_le {m k : Nat} (h : m < W32 ^ k) : dl m ≤ k := by
  rcases Nat.eq_zero_or_pos m with rfl | h0
  · unfold dl; rw [digs_zero]; simp
  · have h1 := pow_le_of_digs (b := W32) (by decide) h0
    have h2 : W32 ^ (dl m - 1) < W32 ^ k := Nat.lt_of_le_of_lt h1 h
    have h3 := (Nat.pow_lt_pow_iff_right (a := W32) (by decide)).1 h2
    omega
set_option maxHeartbeats 1000000 in
theorem Parse_any (s : ByteArray) (w : World) (hs : s.size ≤ 100000) :
    Calls Tryd.prog 18 #[.string s] w (ParsePost w s.data.toList) := by
  have HSM : Hid (s.size ≤ maxLen) := by simp only [maxLen, Hid]; omega
  by_cases hd : digB s.data.toList = true
  · have HD := hide hd
    obtain ⟨l, hl⟩ : ∃ l, l = s.data.toList := ⟨_, rfl⟩
    have hall : l.all isDig = true := by rw [hl]; unfold digB at hd; simp only [Bool.and_eq_true] at hd; exact hd.2
    have HL := hide hl
    have HA := hide hall
    have hlen : l.length ≤ 100000 := by rw [hl]; exact hs
    obtain ⟨i0, hi0, hz0, hz1, hz2⟩ := info_parts Tryd.infoU32
    have I0 := hide hi0
    have Z0 := hide hz0
    have Z1 := hide hz1
    have Z2 := hide hz2
    clear hi0 hz0 hz1 hz2 hd hl hall hs
    go_enter Tryd.func18, Tryd.ntmps18
    go_wp2_with (first | (go_at_call 66; go_must (refine (isDigits_any s _ HSM.out).mono ?_); rintro e w' ⟨rfl, rfl⟩; have hdt := HD.out) | (go_at_call 67; go_must (refine (TrimLeft_any s _).mono ?_); rintro e w' ⟨t, rfl, ht, rfl⟩; have HT := hide ht; have htl : t.size ≤ 100000 := (by rw [size_list, ht]; exact Nat.le_trans (len_drop _) (by rw [← HL.out]; exact hlen)); clear ht hdt) | (at_make; go_must (refine wpList_make_own _ rfl _ _ 23 rfl (w.heap.size + 1) 30 i0 (.int .u32 0) 1 Tryd.underlying23 I0.out Z0.out Z1.out .i64 .i64 _ (t.size / 9 + 1) rfl rfl (by omega) (by rw [Z2.out]; omega) (by simp only [maxLen]; omega) (by simp) ?_; intro w1 hown hgr1)))
    have HBEL : Hid (Below w.heap.size w w1) := ((Below.refl _ _).alloc (Nat.le_refl _) _).grown hgr1 (by simp) (by intro k hk; cases hk)
    have HRES : Hid (w1.heap[w.heap.size]? = some (.cells #[.slice none 0 0] 25 (0, 0))) := (hgr1.block _ (by simp) (by simp)).trans (heap_alloc_new w _)
    have HOWN : Hid (OwnG w1 (w.heap.size + 1) (w.heap.size + 1) (t.size / 9 + 1) []) := by simpa [Hid, OwnG, OwnF] using hown
    have HALL : Hid (t.data.toList.all isDig = true) := by unfold Hid; rw [HT.out, ← HL.out]; exact all_drop HA.out
    have HNT : Hid (numL t.data.toList = numL l) := by unfold Hid; rw [HT.out, ← HL.out, numL_drop]
    clear hown hgr1
    go_loopw [4, 5] (fun sv wv wr => ∃ (u : ByteArray) (m g' cap' : Nat), sv = .string u ∧ wv = .slice (some ⟨g', 0, none⟩) (dl m) cap' ∧ u.size ≤ t.size ∧ dl m ≤ 100000 ∧ Hid (m = 0 ∨ u.size % 9 = 0) ∧ Hid (OwnG wr (w.heap.size + 1) g' cap' (digs W32 m)) ∧ Hid (Below (w.heap.size + 1) w1 wr) ∧
        Hid (u.data.toList.all isDig = true) ∧ Hid (m * 10 ^ u.size + numL u.data.toList = numL l))
      (fun sv _ _ => match sv with | .string u => u.size | _ => 0)
    case atStart => exact ⟨t, 0, w.heap.size + 1, t.size / 9 + 1, rfl, by first | rfl | (unfold dl; rw [digs_zero]; rfl), Nat.le_refl _, by unfold dl; rw [digs_zero]; simp, .inl rfl, by rw [digs_zero]; exact HOWN, Below.refl _ _, HALL, by unfold Hid; rw [HNT.out]; simp⟩
    case round =>
      obtain ⟨u, m, g', cap', rfl, rfl, hut, hdl, h9, hown, hbel, hall, hnum⟩ := hrel
      by_cases h0 : u.size = 0
      · have h1 : ¬ 0 < u.size := by omega
        have HZ := hide h0
        obtain ⟨hr3, hr4⟩ := one_cell ((hbel.out.block _ (by omega)).trans HRES.out)
        clear h0
        go_wp2
        refine bodyPost_ret (v := .tuple #[.agg #[.slice (some ⟨g', 0, none⟩) (dl m) cap'], .bool true]) (by simp [results, Tryd.results18, go_sem, hr3]) rfl ?_
        have hm : m = numL l := by
          have h2 := hnum.out
          rw [HZ.out, List.eq_nil_of_length_eq_zero (show u.data.toList.length = 0 from HZ.out)] at h2
          simpa [numL] using h2
        unfold ParsePost
        rw [← HL.out, if_pos (by rw [HL.out]; exact HD.out), ← hm]
        refine ⟨_, _, rfl, ?_, (HBEL.out.trans (hbel.out.mono (by omega))).setCell (by simp) _⟩
        exact hown.out.can (by have := hown.out.ge.1; simp; omega) _
      · have h1 : 0 < u.size := by omega
        clear h0
        obtain ⟨k, hk⟩ : ∃ k, k = (u.size - 1) % 9 + 1 := ⟨_, rfl⟩
        obtain ⟨v, hv⟩ : ∃ v, v = numL (u.data.toList.take k) := ⟨_, rfl⟩
        have hk9 : k ≤ 9 ∧ k ≤ u.size := by omega
        have htake : (u.data.toList.take k).all isDig = true := by
          rw [List.all_eq_true]; exact fun c hc => List.all_eq_true.1 hall.out c (List.mem_of_mem_take hc)
        have hv9 : v ≤ 999999999 := by
          have h2 := numL_lt _ htake
          rw [← hv, List.length_take] at h2
          have h3 : 10 ^ min k u.data.toList.length ≤ 10 ^ 9 := Nat.pow_le_pow_right (by omega) (by omega)
          omega
        have CV : Hid (Calls Tryd.prog 69 #[.string (u.extract 0 ((u.size - 1) % 9 + 1))] wr fun e w' => e = .returned (.int .u32 (v : Int)) ∧ wr = w') := by
          have he : (u.extract 0 ((u.size - 1) % 9 + 1)).data.toList = u.data.toList.take k := by rw [Lib.extract_data, List.drop_zero, Nat.sub_zero, hk]
          have h2 := valueOf_any (u.extract 0 ((u.size - 1) % 9 + 1)) wr (by rw [size_list, he, List.length_take]; omega) (by rw [he]; exact htake)
          rw [he, ← hv] at h2
          exact h2
        have HNEW : Hid ((m * 1000000000 + v) * 10 ^ (u.size - k) + numL (u.data.toList.drop k) = numL l) := by
          have h2 := numL_append (u.data.toList.take k) (u.data.toList.drop k)
          rw [List.take_append_drop, List.length_drop, ← hv] at h2
          have h3 := hnum.out
          rw [h2, size_list] at h3
          unfold Hid
          rw [Nat.add_mul, size_list, ← h3]
          rcases h9.out with rfl | h9
          · simp
          · have hk2 : k = 9 := by omega
            have h4 : 10 ^ u.data.toList.length = 1000000000 * 10 ^ (u.data.toList.length - k) := by
              rw [show (1000000000 : Nat) = 10 ^ 9 from rfl, ← Nat.pow_add]; congr 1; rw [← size_list]; omega
            rw [h4, Nat.mul_assoc]; omega
        have HDL : Hid (dl (m * 1000000000 + v) ≤ 100000) := by
          have h2 : m * 1000000000 + v ≤ numL l := by
            rw [← HNEW.out]
            exact Nat.le_trans (Nat.le_mul_of_pos_right _ (Nat.pow_pos (by omega))) (Nat.le_add_right _ _)
          have h3 := numL_lt l HA.out
          have h4 : 10 ^ l.length ≤ W32 ^ l.length := Nat.pow_le_pow_left (by decide) _
          exact Nat.le_trans (dl_le (Nat.lt_of_le_of_lt h2 (Nat.lt_of_lt_of_le h3 h4))) hlen
        have HK : Hid (k = (u.size - 1) % 9 + 1) := hk
        have hsz : u.size - k < u.size := by omega
        have hmod : (u.size - k) % 9 = 0 := by omega
        have HMOD := hide hmod
        have HEX : Hid ((u.extract ((u.size - 1) % 9 + 1) u.size).data.toList = u.data.toList.drop k) := by
          unfold Hid
          rw [Lib.extract_data, ← hk, List.take_of_length_le]
          rw [List.length_drop]; exact Nat.le_refl _
        have HALD : Hid ((u.data.toList.drop k).all isDig = true) := by
          unfold Hid
          rw [List.all_eq_true]; exact fun c hc => List.all_eq_true.1 hall.out c (List.mem_of_mem_drop hc)
        clear hk hv htake hmod
        go_wp2_with (first | (go_at_call 69; go_must (refine CV.out.mono ?_); rintro e w' ⟨rfl, rfl⟩) | (go_at_call 68; go_must (refine (appendGroup_any hown.out hv9 (by omega)).mono ?_); rintro e w2 ⟨g2, cap2, rfl, hown2, hbel2⟩))
        go_roundw
        case rel =>
          refine ⟨_, m * 1000000000 + v, g2, cap2, rfl, rfl, ?_, HDL.out, .inr ?_, hown2, hbel.out.trans hbel2.out, ?_, ?_⟩
          · rw [size_list, HEX.out, List.length_drop]; have := size_list u; omega
          · rw [size_list, HEX.out, List.length_drop]; exact HMOD.out
          · unfold Hid; rw [HEX.out]; exact HALD.out
          · unfold Hid; rw [HEX.out, size_list, HEX.out, List.length_drop]; exact HNEW.out
        case measure => simp; omega
  · have HD := hide hd
    have hdf : digB s.data.toList = false := by simpa using hd
    clear hd hs
    go_enter Tryd.func18, Tryd.ntmps18
    go_wp2_with (first | (go_at_call 66; go_must (refine (isDigits_any s _ HSM.out).mono ?_); rintro e w' ⟨rfl, rfl⟩))
    refine bodyPost_ret (v := .tuple #[.agg #[.slice none 0 0], .bool false]) (by simp [results, Tryd.results18, go_sem]) rfl ?_
    unfold ParsePost
    rw [if_neg HD.out]
    refine ⟨rfl, ?_⟩
    exact (Below.refl _ _).alloc (Nat.le_refl _) _
end Go.Proofs.YtlmfkeicmldcnaaDoor
