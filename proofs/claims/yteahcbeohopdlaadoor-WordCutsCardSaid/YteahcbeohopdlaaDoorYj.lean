/- WordBack's walk. No conditions. -/
import Derived.Test.YteahcbeohopdlaaDoorYi
import Derived.Test.YteahcbeohopdlaaDoorLas
open Go.RowKit
set_option maxRecDepth 100000
namespace Go.Proofs.YteahcbeohopdlaaDoor
theorem count_step {t x : ByteArray} {xs : List ByteArray} {k : Nat} (h : xs[k]? = some x) : cnt t (xs.take (k + 1)) = cnt t (xs.take k) + if x = t then 1 else 0 := by
  rw [List.take_add_one, h]
  exact cnt_snoc _ _
theorem joinS_size (xs : List ByteArray) : (joinS xs).size = (glue 45 (xs.map (·.data.toList))).length := by
  rw [Lib.size_eq]; rfl
theorem sum_step {css : List (List ByteArray)} {k : Nat} (h : k < css.length) : ((css.take (k + 1)).map List.length).sum = ((css.take k).map List.length).sum + css[k].length := by
  rw [List.take_succ_eq_append_getElem h, List.map_append, List.sum_append]; simp
theorem goodAll_free {xs : List ByteArray} (h : goodAll xs = true) : ∀ p ∈ xs.map (·.data.toList), (45 : UInt8) ∉ p := by
  intro p hp
  obtain ⟨x, hx, rfl⟩ := List.mem_map.1 hp
  exact goodW_free (List.all_eq_true.1 h x hx)
theorem parts_join {xs : List ByteArray} (h : goodAll xs = true) (h0 : xs ≠ []) : parts (joinS xs).data.toList = xs.map (·.data.toList) :=
  cutBy_glue (by simpa using h0) (goodAll_free h)
theorem glue_len {xs : List (List UInt8)} (h : ∀ p ∈ xs, p.length ≤ 20) : (glue 45 xs).length ≤ 21 * xs.length := by
  induction xs with
  | nil => simp [glue]
  | cons x xs ih =>
    have h1 := h x (by simp)
    cases xs with
    | nil => simp [glue]; omega
    | cons y ys =>
      have h2 := ih (fun p hp => h p (by simp [hp]))
      rw [glue_cons _ (by simp)]
      simp only [List.length_append, List.length_cons] at h2 ⊢
      omega
theorem goodAll_len {xs : List ByteArray} (h : goodAll xs = true) : ∀ p ∈ xs.map (·.data.toList), p.length ≤ 20 := by
  intro p hp
  obtain ⟨x, hx, rfl⟩ := List.mem_map.1 hp
  exact (goodW_len (List.all_eq_true.1 h x hx)).2
theorem sum_le_total {css : List (List ByteArray)} (k : Nat) : ((css.take k).map List.length).sum ≤ (css.map List.length).sum := by
  have e := List.take_append_drop k css
  rw [← e, List.map_append, List.sum_append]
  rw [e]; omega
set_option maxHeartbeats 2000000 in
theorem wback_walk {A : Option Addr} {n c : Nat} {xs : List ByteArray} {t : ByteArray} {w : World} (h : Ss w A xs) (hn : n = xs.length) (hc : n ≤ c) :
    Calls Tryd.prog 8 #[.slice A n c, .string t] w (TextsR w true) := by
  have CA := yhide (fun W => awake6_h W)
  by_cases h0 : n = 0
  · subst h0
    clear hn hc h
    go_enter Tryd.func8, Tryd.ntmps8
    go_wp2_with (first | (go_at_call 49; (with_reducible refine (CA.out _).mono ?_); rintro e w1 ⟨rfl, HB⟩) | fail)
    go_ret
    exact ⟨rfl, HB⟩
  · by_cases h12 : 12 < n
    · have d1 : decide ((n : Int) < 1) = false := decide_eq_false (by omega)
      have d2 : decide ((12 : Int) < (n : Int)) = true := decide_eq_true (by omega)
      clear h0 h12 hn
      go_enter Tryd.func8, Tryd.ntmps8
      go_wp2_with (first | (go_at_call 49; (with_reducible refine (CA.out _).mono ?_); rintro e w1 ⟨rfl, HB⟩) | fail)
      go_ret
      exact ⟨rfl, HB⟩
    · have hn1 : 1 ≤ n := by omega
      have hn12 : n ≤ 12 := by omega
      have d1 : decide ((n : Int) < 1) = false := decide_eq_false (by omega)
      have d2 : decide ((12 : Int) < (n : Int)) = false := decide_eq_false (by omega)
      have HN := yhide hn
      clear h0 h12 hn
      go_enter Tryd.func8, Tryd.ntmps8
      go_wp2_with (first | (go_at_call 49; (with_reducible refine (CA.out _).mono ?_); rintro e w1 ⟨rfl, HB⟩; replace h := h.up HB) | fail)
      go_loop [5, 6] (fun nv iv => ∃ k q : Nat, k ≤ n ∧ q ≤ k ∧ iv = .int .i64 (k : Int) ∧ nv = .int .i64 (q : Int) ∧ Hid (goodAll (xs.take k) = true) ∧ Hid (q = cnt t (xs.take k))) (fun _ iv => n - (intOf iv).toNat)
      case atStart => exact ⟨0, 0, Nat.zero_le _, Nat.le_refl _, rfl, rfl, rfl, rfl⟩
      case round =>
        obtain ⟨k, q, hk, hq, rfl, rfl, hall, hcnt⟩ := hrel
        by_cases hlt : k < n
        · have hx : k < xs.length := by rw [← HN.out]; exact hlt
          obtain ⟨ad, rfl, hb, hcell⟩ := h.out.at_ hx
          obtain ⟨x, hxe⟩ : ∃ x, x = xs[k] := ⟨_, rfl⟩
          have HX : Hid (xs[k]? = some x) := by rw [hxe]; exact List.getElem?_eq_getElem hx
          obtain ⟨b, hbe⟩ : ∃ b, b = goodW x.data.toList := ⟨_, rfl⟩
          have HG1 : Hid (goodAll (xs.take (k + 1)) = (goodAll (xs.take k) && b)) := by rw [hbe, hxe]; exact goodAll_take hx
          rw [← hxe] at hcell
          have CG : Hid (∀ W, Calls Tryd.prog 54 #[.string x] W fun e w' => e = .returned (.bool b) ∧ W = w') := fun W => by rw [hbe]; exact wgood_any x W
          clear hxe hbe hx
          cases b
          · go_wp2_with (first | (go_at_call 54; (with_reducible refine (CG.out _).mono ?_); rintro e w2 ⟨rfl, rfl⟩) | fail)
            go_ret
            exact ⟨rfl, HB⟩
          · by_cases hxt : x = t
            · subst hxt
              go_wp2_with (first | (go_at_call 54; (with_reducible refine (CG.out _).mono ?_); rintro e w2 ⟨rfl, rfl⟩) | fail)
              go_round
              case rel => exact ⟨k + 1, q + 1, by omega, by omega, by go_num, by go_num, by unfold Hid; rw [HG1.out, hall.out]; rfl, by unfold Hid; rw [count_step HX.out, if_pos rfl, hcnt.out]⟩
              case measure => simp [intOf]; omega
            · have hne := str_ne hxt
              have HXT := yhide hxt
              clear hxt
              go_wp2_with (first | (go_at_call 54; (with_reducible refine (CG.out _).mono ?_); rintro e w2 ⟨rfl, rfl⟩) | fail)
              go_round
              case rel => exact ⟨k + 1, q, by omega, by omega, by go_num, rfl, by unfold Hid; rw [HG1.out, hall.out]; rfl, by unfold Hid; rw [count_step HX.out, if_neg HXT.out, Nat.add_zero, hcnt.out]⟩
              case measure => simp [intOf]; omega
        · obtain rfl : k = n := by omega
          have e0 : xs.take k = xs := List.take_of_length_le (by rw [← HN.out]; exact Nat.le_refl _)
          rw [e0] at hall hcnt
          have hne : xs ≠ [] := by intro e; have := HN.out; rw [e] at this; simp at this; omega
          have hp := parts_join hall.out hne
          have hgl : (glue 45 (xs.map (·.data.toList))).length ≤ 21 * 12 := by
            have h1 := glue_len (goodAll_len hall.out)
            rw [List.length_map, ← HN.out] at h1
            omega
          have CJ : Hid (∀ W, Ss W A xs → Calls Tryd.prog 55 #[.slice A k c] W (StrR W (joinS xs))) := fun W hs => wjoin_any hs HN.out hc (by omega) (by omega)
          have CC : Hid (∀ W, Ss W A xs → Calls Tryd.prog 51 #[.slice A k c, .string t] W (ListsR W (cutBy t xs))) := fun W hs => wcut_any hs HN.out (by omega)
          have hm := cutBy_cnt (a := t) xs
          have htot := cutBy_all (a := t) xs
          obtain ⟨s, hs⟩ : ∃ s, s = joinS xs := ⟨_, rfl⟩
          obtain ⟨css, hcss⟩ : ∃ css, css = cutBy t xs := ⟨_, rfl⟩
          have hsz : s.size ≤ 256 := by rw [hs, joinS_size]; omega
          have CS : Hid (∀ W, Calls Tryd.prog 50 #[.string s] W (SplitN W k xs)) := fun W => split_ok hsz (by rw [hs]; exact hp) hall.out HN.out.symm
          rw [← hs] at CJ
          rw [← hcss, ← hcnt.out] at hm
          rw [← hcss, ← hcnt.out, ← HN.out] at htot
          rw [← hcss] at CC
          have CT : Hid (∀ W ad c2, Ss W (some ad) xs → Ss W A xs → Calls Tryd.prog 52 #[.slice (some ad) k c2, .slice A k c] W (TextsR W true)) := fun W ad c2 h1 h2 => texts_h h1 h2 HN.out HN.out (by omega) (by omega) (decide_eq_true rfl)
          have d3 : decide ((256 : Int) < (s.size : Int)) = false := decide_eq_false (by omega)
          have HM : Hid (css.length = q + 1) := hm
          have HT : Hid ((css.map List.length).sum + q = k) := htot
          have HLR : Hid (∀ (W : World) e w', ListsR W css e w' → ∃ ad c, e = .returned (.slice (some ad) (q + 1) c) ∧ Sss w' (some ad) css ∧ Hid (Below W.heap.size W w')) := fun W e w' ⟨ad, c, he, h1, h2⟩ => ⟨ad, c, by rw [he, hm], h1, h2⟩
          clear hs hcss hm htot hp hgl hne e0 hsz
          go_wp2_with (first
            | (go_at_call 55; (with_reducible refine (CJ.out _ h).mono ?_); rintro e w2 ⟨rfl, hb⟩; replace h := h.up hb; replace HB : Hid (Below w.heap.size w w2) := HB.out.trans (hb.out.mono HB.out.size); clear hb)
            | (go_at_call 50; (with_reducible refine (CS.out _).mono ?_); rintro e w3 ⟨ad, c2, rfl, hc2, HS, hb⟩; replace h := h.up hb; replace HB : Hid (Below w.heap.size w w3) := HB.out.trans (hb.out.mono HB.out.size); clear hb)
            | (go_at_call 51; (with_reducible refine (CC.out _ h).mono ?_); rintro e w4 hl4; obtain ⟨ad4, c4, rfl, H4, hb⟩ := HLR.out _ _ _ hl4; replace h := h.up hb; replace HS := HS.up hb; replace HB : Hid (Below w.heap.size w w4) := HB.out.trans (hb.out.mono HB.out.size); clear hb hl4)
            | fail)
          go_loop [10, 11] (fun sv iv => ∃ j u : Nat, j ≤ q + 1 ∧ u ≤ k ∧ iv = .int .i64 (j : Int) ∧ sv = .int .i64 (u : Int) ∧ Hid (u = ((css.take j).map List.length).sum)) (fun _ iv => q + 1 - (intOf iv).toNat)
          case atStart => exact ⟨0, 0, Nat.zero_le _, Nat.zero_le _, rfl, rfl, rfl⟩
          case round =>
            obtain ⟨j, u, hj, hu, rfl, rfl, hsum⟩ := hrel
            by_cases hjt : j < q + 1
            · have hjx : j < css.length := by rw [HM.out]; exact hjt
              obtain ⟨ad5, A5, c5, e5, hb5, hcell5, hrs5, _⟩ := H4.out.at_ hjx
              clear hrs5
              obtain rfl : ad4 = ad5 := by injection e5
              obtain ⟨l5, hl5⟩ : ∃ l, l = css[j].length := ⟨_, rfl⟩
              rw [← hl5] at hcell5
              have HSU : Hid (u + l5 = ((css.take (j + 1)).map List.length).sum) := by unfold Hid; rw [sum_step hjx, ← hl5, ← hsum.out]
              have hu5 : u + l5 ≤ k := by rw [HSU.out]; have := sum_le_total (css := css) (j + 1); have := HT.out; omega
              clear hl5 hjx e5
              go_wp2
              go_round
              case rel => exact ⟨j + 1, u + l5, by omega, by omega, by go_num, by go_num, HSU⟩
              case measure => simp [intOf]; omega
            · obtain rfl : j = q + 1 := by omega
              have hu2 : u + q = k := by
                have h1 := hsum.out
                rw [List.take_of_length_le (by rw [HM.out]; exact Nat.le_refl _)] at h1
                rw [h1]; exact HT.out
              obtain rfl : k = u + q := hu2.symm

              go_wp2_with (first
                | (go_at_call 55; (with_reducible refine (CJ.out _ h).mono ?_); rintro e w5 ⟨rfl, hb⟩; replace h := h.up hb; replace HS := HS.up hb; replace HB : Hid (Below w.heap.size w w5) := HB.out.trans (hb.out.mono HB.out.size); clear hb)
                | (go_at_call 52; (with_reducible refine (CT.out _ _ _ HS h).mono ?_); rintro e w6 ⟨rfl, hb⟩; replace HB : Hid (Below w.heap.size w w6) := HB.out.trans (hb.out.mono HB.out.size); clear hb)
                | fail)
              go_ret
              exact ⟨rfl, HB⟩
theorem wback_all {A : Option Addr} {n c : Nat} {xs : List ByteArray} {t : ByteArray} (w : World) (h : InStrs w A n c xs) (_ : t.size ≤ maxLen) :
    Calls Tryd.prog 8 #[.slice A n c, .string t] w fun e w' => e = .returned (.bool true) ∧ Below w.heap.size w w' :=
  (wback_walk h.2.2 h.1 h.2.1).mono fun _ _ ⟨he, hb⟩ => ⟨he, hb⟩
end Go.Proofs.YteahcbeohopdlaaDoor
