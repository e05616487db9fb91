/- WordCuts' walk. No conditions. -/
import Derived.Test.YteahcbeohopdlaaDoorYj
import Derived.Laws.AppendOwnNone
open Go.RowKit
set_option maxRecDepth 100000
namespace Go.Proofs.YteahcbeohopdlaaDoor
theorem glue_take_more {t : ByteArray} {css : List (List ByteArray)} {i : Nat} (h : i < css.length) (h0 : i ≠ 0) : glue t (css.take (i + 1)) = glue t (css.take i) ++ [t] ++ css[i] := by
  rw [List.take_succ_eq_append_getElem h, glue_snoc (by intro e; rw [List.take_eq_nil_iff] at e; rcases e with e | e; (· exact h0 e); (· rw [e] at h; simp at h))]
  simp
theorem glue_take_one {t : ByteArray} {css : List (List ByteArray)} (h : 0 < css.length) : glue t (css.take 1) = css[0] := by
  cases css with
  | nil => simp at h
  | cons c css => rfl
theorem glue_take_len {t : ByteArray} {css : List (List ByteArray)} (i : Nat) : (glue t (css.take i)).length ≤ (glue t css).length := by
  induction css generalizing i with
  | nil => simp
  | cons c css ih =>
    cases i with
    | zero => simp [glue]
    | succ i =>
      rw [List.take_succ_cons]
      cases css with
      | nil => simp
      | cons d css =>
        have := ih i
        cases i with
        | zero => simp [glue]
        | succ i =>
          rw [List.take_succ_cons] at this ⊢
          rw [glue_cons _ (List.cons_ne_nil _ _), glue_cons _ (List.cons_ne_nil _ _)]
          simp only [List.length_append, List.length_cons] at this ⊢
          omega
theorem own_below {w w1 w2 : World} {base : Nat} {e : TypeId} {v : Value} {n : Nat} {xs : List Value} (h : w1.ownsRow base e 1 v n xs) (hb : Hid (Below w1.heap.size w1 w2)) : w2.ownsRow base e 1 v n xs := by
  refine ⟨h.1, ?_⟩
  rcases h.2 with h1 | ⟨g, cap, cur, e1, e2, hg, rest⟩
  · exact .inl h1
  · exact .inr ⟨g, cap, cur, e1, e2, (hb.out.block g (Array.getElem?_eq_some_iff.1 hg).1).trans hg, rest⟩
theorem own_ss {w : World} {base : Nat} {e : TypeId} {rs : List ByteArray} {v : Value} (h : w.ownsRow base e 1 v rs.length (rs.map Value.string)) : ∃ A c, v = .slice A rs.length c ∧ Ss w A rs := by
  have h2 := h
  rcases h.2 with ⟨e1, e2⟩ | ⟨g, cap, cur, e1, _⟩
  · refine ⟨none, 0, by rw [e1, e2], ?_⟩
    have : rs = [] := List.eq_nil_of_length_eq_zero e2
    subst this
    exact RS.nil
  · refine ⟨_, cap, e1, ?_⟩
    rw [e1] at h2
    exact RS.of_own h2
theorem cells_of {w : World} {a : Addr} {p : List ByteArray} (h : Hid (RS w w.heap.size (some a) p)) : Hid (∀ (j : Nat) u, (p.map Value.string)[j]? = some u → w.cell? (a.add j) = some u) := fun j u hu => by
  rw [List.getElem?_map] at hu
  cases hp : p[j]? with
  | none => rw [hp] at hu; cases hu
  | some x =>
    rw [hp] at hu
    simp at hu
    subst hu
    have hl : 0 < p.length := by
      rcases Nat.eq_zero_or_pos p.length with h0 | h0
      · rw [List.getElem?_eq_none (by omega)] at hp; cases hp
      · exact h0
    obtain ⟨ad, e, _, hc⟩ := h.out hl
    injection e with e
    subst e
    exact hc j x hp
theorem own_one {w : World} {base : Nat} {e : TypeId} {v : Value} {rs : List ByteArray} {t : ByteArray} (h : w.ownsRow base e 1 v (rs.length + 1) (rs.map Value.string ++ [.string t])) : Hid (w.ownsRow base e 1 v (rs ++ [t]).length ((rs ++ [t]).map Value.string)) := by
  unfold Hid
  rw [List.length_append, List.map_append]
  exact h
set_option maxHeartbeats 4000000 in
theorem wcuts_walk {A : Option Addr} {n c : Nat} {xs : List ByteArray} {t : ByteArray} {w : World} (h : Ss w A xs) (hn : n = xs.length) :
    Calls Tryd.prog 9 #[.slice A n c, .string t] w (TextsR w true) := by
  have CA := yhide (fun W => awake6_h W)
  by_cases h20 : 20 < n
  · have d2 : decide ((20 : Int) < (n : Int)) = true := decide_eq_true (by omega)
    clear h20 hn
    go_enter Tryd.func9, Tryd.ntmps9
    go_wp2_with (first | (go_at_call 49; (with_reducible refine (CA.out _).mono ?_); rintro e w1 ⟨rfl, HB⟩) | fail)
    go_ret
    exact ⟨rfl, HB⟩
  · have hn20 : n ≤ 20 := by omega
    have d2 : decide ((20 : Int) < (n : Int)) = false := decide_eq_false (by omega)
    obtain ⟨css, hcss⟩ : ∃ css, css = cutBy t xs := ⟨_, rfl⟩
    obtain ⟨m, hm⟩ : ∃ m, m = css.length := ⟨_, rfl⟩
    have CC : Hid (∀ W, Ss W A xs → Calls Tryd.prog 51 #[.slice A n c, .string t] W (fun e w' => ∃ ad c, e = .returned (.slice (some ad) m c) ∧ Sss w' (some ad) css ∧ Hid (Below W.heap.size W w'))) := fun W hs => by
      rw [hcss] at hm
      rw [hcss, hm]
      exact wcut_any hs hn (by omega)
    have HG : Hid (glue t css = xs) := by rw [hcss]; exact glue_cutBy xs
    have HF : Hid (∀ p ∈ css, t ∉ p) := by rw [hcss]; exact cutBy_free xs
    have hm21 : m ≤ 21 := by rw [hm, hcss]; have := cutBy_le (a := t) xs; omega
    have HM := yhide hm
    have HN := yhide hn
    obtain ⟨j0, hj0, hy0, hy1, hy2⟩ := info_parts Tryd.infoStr
    have J0 := yhide hj0; have Y0 := yhide hy0; have Y1 := yhide hy1; have Y2 := yhide hy2
    clear hj0 hy0 hy1 hy2 h20 hcss hm hn
    go_enter Tryd.func9, Tryd.ntmps9
    go_wp2_with (first | (go_at_call 49; (with_reducible refine (CA.out _).mono ?_); rintro e w1 ⟨rfl, HB⟩; replace h := h.up HB) | (go_at_call 51; (with_reducible refine (CC.out _ h).mono ?_); rintro e w2 ⟨ad4, c4, rfl, H4, hb⟩; replace h := h.up hb; replace HB : Hid (Below w.heap.size w w2) := HB.out.trans (hb.out.mono HB.out.size); clear hb) | fail)
    go_loopw [6, 7] (fun rv iv wr => ∃ (i : Nat) (rs : List ByteArray), i ≤ m ∧ iv = .int .i64 (i : Int) ∧ Hid (rs = glue t (css.take i)) ∧ Hid (wr.ownsRow w2.heap.size 9 1 rv rs.length (rs.map Value.string)) ∧ Hid (Below w2.heap.size w2 wr)) (fun _ iv _ => m - (intOf iv).toNat)
    case atStart => exact ⟨0, [], Nat.zero_le _, rfl, rfl, World.ownsRow_nil _ _ _ _, Below.refl _ _⟩
    case round =>
      obtain ⟨i, rs, hi, rfl, hrs, hown, hbw⟩ := hrel
      by_cases hlt : i < m
      · have hix : i < css.length := by rw [← HM.out]; exact hlt
        obtain ⟨ad5, A5, c5, e5, hb5, hcell5, hrs5, hnil5⟩ := (H4.up hbw).out.at_ hix
        obtain rfl : ad4 = ad5 := by injection e5
        obtain ⟨p, hpe⟩ : ∃ p, p = css[i] := ⟨_, rfl⟩
        obtain ⟨l, hle⟩ : ∃ l, l = p.length := ⟨_, rfl⟩
        rw [← hpe] at hcell5 hrs5
        rw [← hle] at hcell5
        have HFP : Hid (t ∉ p) := HF.out p (by rw [hpe]; exact List.getElem_mem hix)
        have hlx : (glue t (css.take (i + 1))).length ≤ 20 := by
          have h1 := glue_take_len (t := t) (css := css) (i + 1)
          rw [HG.out, ← HN.out] at h1
          omega
        have HL := yhide hle
        have HP := yhide hrs5
        have HBW : Hid (w2.heap.size ≤ wr.heap.size) := hbw.out.size
        have H5 : Hid (∀ W, Hid (Below w2.heap.size w2 W) → W.cell? (ad4.add i) = some (.slice A5 l c5)) := fun W hb => by
          obtain ⟨ad7, vs7, e7, hb7, hc7⟩ := H4.out (by omega)
          obtain rfl : ad4 = ad7 := by injection e7
          have h1 := (hc7 i p (by rw [hpe]; exact List.getElem?_eq_getElem hix)).1
          have h2 := (hbw.out.cell (p := ad4.add i) (by rw [yblock_add]; exact hb7)).trans h1
          rw [hcell5] at h2
          have h3 := (hb.out.cell (p := ad4.add i) (by rw [yblock_add]; exact hb7)).trans h1
          rw [h3, ← h2]
        have H6 : Hid (∀ W, Hid (Below w2.heap.size w2 W) → RS W W.heap.size A5 p) := fun W hb => by
          obtain ⟨ad7, vs7, e7, hb7, hc7⟩ := H4.out (by omega)
          obtain rfl : ad4 = ad7 := by injection e7
          have h0 := hc7 i p (by rw [hpe]; exact List.getElem?_eq_getElem hix)
          have h2 := (hbw.out.cell (p := ad4.add i) (by rw [yblock_add]; exact hb7)).trans h0.1
          rw [hcell5] at h2
          injection h2 with h2
          injection h2 with h2 _ _
          rw [h2]
          exact (h0.2.1.below hb.out).more hb.out.size
        by_cases h0 : i = 0
        · cases A5 with
          | none =>
            obtain rfl : i = 0 := h0
            have HR : Hid (glue t (css.take (0 + 1)) = rs ++ p) := by unfold Hid; rw [hrs.out, glue_take_one hix, ← hpe]; rfl
            have HRL : Hid (rs.length + l ≤ 20) := by unfold Hid; have h1 := hlx; rw [HR.out] at h1; simp only [List.length_append, List.length_cons, List.length_nil] at h1; have := HL.out; omega
            have hl20 : l ≤ 20 := by have := HRL.out; omega
            obtain rfl : c5 = 0 := hnil5 rfl
            have hl0 : l = 0 := by
              rcases Nat.eq_zero_or_pos l with h1 | h1
              · exact h1
              · obtain ⟨_, e, _⟩ := HP.out (by rw [← HL.out]; exact h1)
                cases e
            obtain rfl : l = 0 := hl0
            obtain rfl : p = [] := List.eq_nil_of_length_eq_zero HL.out.symm
            clear hpe hle hix hlx e5 hrs5 hb5 hnil5
            replace hcell5 : wr.cell? ad4 = some (.slice none 0 0) := by rw [show ad4.add 0 = ad4 by simp [Addr.add]] at hcell5; exact hcell5
            go_wp2
            go_loop [8] (fun kv => ∃ k : Nat, k ≤ 0 ∧ kv = .int .i64 (k : Int)) (fun kv => 0 - (intOf kv).toNat)
            case atStart => exact ⟨0, Nat.zero_le _, rfl⟩
            case round =>
              obtain ⟨k, hk, rfl⟩ := hrel
              by_cases hkl : k < 0
              · exfalso
                omega
              · obtain rfl : k = 0 := by omega
                go_wp2_with (first | (at_builtin; go_must (refine wpList_append_own_none rfl (.tmp 47) (.tmp 51) 57 rfl w2.heap.size 9 j0 1 Tryd.underlying57 J0.out _ _ _ rfl hown.out rfl ?_)) | fail)
                go_roundw
                case rel => exact ⟨0 + 1, glue t (css.take (0 + 1)), by omega, by first | rfl | go_num, rfl, by unfold Hid; rw [HR.out, List.append_nil]; exact hown.out, hbw⟩
                case measure => simp [intOf]; omega
          | some a5 =>
            obtain rfl : i = 0 := h0
            have HR : Hid (glue t (css.take (0 + 1)) = rs ++ p) := by unfold Hid; rw [hrs.out, glue_take_one hix, ← hpe]; rfl
            have HRL : Hid (rs.length + l ≤ 20) := by unfold Hid; have h1 := hlx; rw [HR.out] at h1; simp only [List.length_append, List.length_cons, List.length_nil] at h1; have := HL.out; omega
            have hl20 : l ≤ 20 := by have := HRL.out; omega
            clear hpe hle hix hlx e5 hrs5 hb5 hnil5
            have HPn : Hid (RS wr wr.heap.size (some a5) p) := HP
            replace hcell5 : wr.cell? ad4 = some (.slice (some a5) l c5) := by rw [show ad4.add 0 = ad4 by simp [Addr.add]] at hcell5; exact hcell5
            go_wp2
            go_loop [8] (fun kv => ∃ k : Nat, k ≤ l ∧ kv = .int .i64 (k : Int)) (fun kv => l - (intOf kv).toNat)
            case atStart => exact ⟨0, Nat.zero_le _, rfl⟩
            case round =>
              obtain ⟨k, hk, rfl⟩ := hrel
              by_cases hkl : k < l
              · have hkp : k < p.length := by rw [← HL.out]; exact hkl
                obtain ⟨ad6, e6, hb6, hcell6⟩ := HPn.out.at_ hkp
                obtain rfl : a5 = ad6 := by injection e6
                obtain ⟨x, hxe⟩ : ∃ x, x = p[k] := ⟨_, rfl⟩
                rw [← hxe] at hcell6
                have hxt : x ≠ t := fun e => HFP.out (by rw [← e, hxe]; exact List.getElem_mem hkp)
                have hne := str_ne hxt
                clear hxt hxe hkp e6
                go_wp2
                go_round
                case rel => exact ⟨k + 1, by omega, by go_num⟩
                case measure => simp [intOf]; omega
              · obtain rfl : k = l := by omega
                have HNEW : Hid (∀ j u, (p.map Value.string)[j]? = some u → wr.cell? (a5.add j) = some u) := cells_of HPn
                go_wp2_with (first | (at_builtin; go_must (refine wpList_append_own_at _ rfl (.tmp 47) (.tmp 51) 57 rfl w2.heap.size 9 j0 (.string ByteArray.empty) 1 16 Tryd.underlying57 J0.out Y0.out Y1.out Y2.out rfl (by decide) _ _ _ rfl hown.out a5 _ _ (p.map Value.string) rfl (by rw [List.length_map, ← HL.out, Nat.mul_one]) HNEW.out (by intro u hu; obtain ⟨s, _, rfl⟩ := List.mem_map.1 hu; rfl) (by have := HRL.out; simp only [maxLen]; omega) (by have := HRL.out; omega) (HBW.out) ?_; intro v9 w9 ho9 hg9 hn9 ha9; clear hn9 ha9; have HO9 := yhide ho9; have HB9 : Hid (Below w2.heap.size w2 w9) := hbw.out.grown hg9 HBW.out (fun g' e => (hown.out.lt g' e).1); clear ho9 hg9)) | fail)
                go_roundw
                case rel => exact ⟨0 + 1, glue t (css.take (0 + 1)), by omega, by first | rfl | go_num, rfl, by unfold Hid; rw [HR.out]; have h9 := HO9.out; rw [HL.out] at h9; rw [List.length_append, List.map_append]; exact h9, HB9⟩
                case measure => simp [intOf]; omega
        · cases A5 with
          | none =>
            have HR : Hid (glue t (css.take (i + 1)) = rs ++ [t] ++ p) := by unfold Hid; rw [glue_take_more hix h0, ← hrs.out, ← hpe]
            have d0 : decide (0 < i) = true := decide_eq_true (by omega)
            have d1 : 0 < i := by omega
            have HRL : Hid (1 + rs.length + l ≤ 20) := by unfold Hid; have h1 := hlx; rw [HR.out] at h1; simp only [List.length_append, List.length_cons, List.length_nil] at h1; have := HL.out; omega
            have hl20 : l ≤ 20 := by have := HRL.out; omega
            obtain rfl : c5 = 0 := hnil5 rfl
            have hl0 : l = 0 := by
              rcases Nat.eq_zero_or_pos l with h1 | h1
              · exact h1
              · obtain ⟨_, e, _⟩ := HP.out (by rw [← HL.out]; exact h1)
                cases e
            obtain rfl : l = 0 := hl0
            obtain rfl : p = [] := List.eq_nil_of_length_eq_zero HL.out.symm
            clear hpe hle hix hlx e5 hrs5 hb5 hnil5 h0
            have hrl : rs.length + 1 ≤ 20 := by have := HRL.out; omega
            go_wp2_with (first | (at_builtin; go_must (refine wpList_append_own_at _ rfl (.tmp 25) (.tmp 27) 57 rfl w2.heap.size 9 j0 (.string ByteArray.empty) 1 16 Tryd.underlying57 J0.out Y0.out Y1.out Y2.out rfl (by decide) _ _ _ rfl (hown.out.alloc _) ⟨wr.heap.size, 0, none⟩ 1 1 [.string t] rfl rfl (cell_one_new _ _ _) (by intro u hu; simp at hu; subst hu; rfl) (by simp only [maxLen]; omega) (by omega) (Nat.le_trans HBW.out (by simp)) ?_; intro v1 w5 ho1 hg1 hn1 ha1; clear hn1 ha1; have HO1 : Hid (w5.ownsRow w2.heap.size 9 1 v1 (rs ++ [t]).length ((rs ++ [t]).map Value.string)) := own_one ho1; have HB5 : Hid (Below w2.heap.size w2 w5) := (hbw.out.alloc HBW.out _).grown hg1 (Nat.le_trans HBW.out (by simp)) (fun g' e => (hown.out.lt g' e).1); clear ho1 hg1)) | fail)
            replace hcell5 : w5.cell? (ad4.add i) = some (.slice none 0 0) := H5.out w5 HB5
            go_loop [8] (fun kv => ∃ k : Nat, k ≤ 0 ∧ kv = .int .i64 (k : Int)) (fun kv => 0 - (intOf kv).toNat)
            case atStart => exact ⟨0, Nat.zero_le _, rfl⟩
            case round =>
              obtain ⟨k, hk, rfl⟩ := hrel
              by_cases hkl : k < 0
              · exfalso
                omega
              · obtain rfl : k = 0 := by omega
                go_wp2_with (first | (at_builtin; go_must (refine wpList_append_own_none rfl (.tmp 47) (.tmp 51) 57 rfl w2.heap.size 9 j0 1 Tryd.underlying57 J0.out v1 _ _ rfl HO1.out rfl ?_)) | fail)
                go_roundw
                case rel => exact ⟨i + 1, glue t (css.take (i + 1)), by omega, by first | rfl | go_num, rfl, by unfold Hid; rw [HR.out, List.append_nil]; exact HO1.out, HB5⟩
                case measure => simp [intOf]; omega
          | some a5 =>
            have HR : Hid (glue t (css.take (i + 1)) = rs ++ [t] ++ p) := by unfold Hid; rw [glue_take_more hix h0, ← hrs.out, ← hpe]
            have d0 : decide (0 < i) = true := decide_eq_true (by omega)
            have d1 : 0 < i := by omega
            have HRL : Hid (1 + rs.length + l ≤ 20) := by unfold Hid; have h1 := hlx; rw [HR.out] at h1; simp only [List.length_append, List.length_cons, List.length_nil] at h1; have := HL.out; omega
            have hl20 : l ≤ 20 := by have := HRL.out; omega
            clear hpe hle hix hlx e5 hrs5 hb5 hnil5 h0
            have HRT : Hid ((rs ++ [t]).length + l ≤ 20) := by unfold Hid; rw [List.length_append, List.length_singleton]; have := HRL.out; omega
            have hrl : rs.length + 1 ≤ 20 := by have := HRL.out; omega
            go_wp2_with (first | (at_builtin; go_must (refine wpList_append_own_at _ rfl (.tmp 25) (.tmp 27) 57 rfl w2.heap.size 9 j0 (.string ByteArray.empty) 1 16 Tryd.underlying57 J0.out Y0.out Y1.out Y2.out rfl (by decide) _ _ _ rfl (hown.out.alloc _) ⟨wr.heap.size, 0, none⟩ 1 1 [.string t] rfl rfl (cell_one_new _ _ _) (by intro u hu; simp at hu; subst hu; rfl) (by simp only [maxLen]; omega) (by omega) (Nat.le_trans HBW.out (by simp)) ?_; intro v1 w5 ho1 hg1 hn1 ha1; clear hn1 ha1; have HO1 : Hid (w5.ownsRow w2.heap.size 9 1 v1 (rs ++ [t]).length ((rs ++ [t]).map Value.string)) := own_one ho1; have HB5 : Hid (Below w2.heap.size w2 w5) := (hbw.out.alloc HBW.out _).grown hg1 (Nat.le_trans HBW.out (by simp)) (fun g' e => (hown.out.lt g' e).1); clear ho1 hg1)) | fail)
            replace hcell5 : w5.cell? (ad4.add i) = some (.slice (some a5) l c5) := H5.out w5 HB5
            have HPn : Hid (RS w5 w5.heap.size (some a5) p) := H6.out w5 HB5
            go_loop [8] (fun kv => ∃ k : Nat, k ≤ l ∧ kv = .int .i64 (k : Int)) (fun kv => l - (intOf kv).toNat)
            case atStart => exact ⟨0, Nat.zero_le _, rfl⟩
            case round =>
              obtain ⟨k, hk, rfl⟩ := hrel
              by_cases hkl : k < l
              · have hkp : k < p.length := by rw [← HL.out]; exact hkl
                obtain ⟨ad6, e6, hb6, hcell6⟩ := HPn.out.at_ hkp
                obtain rfl : a5 = ad6 := by injection e6
                obtain ⟨x, hxe⟩ : ∃ x, x = p[k] := ⟨_, rfl⟩
                rw [← hxe] at hcell6
                have hxt : x ≠ t := fun e => HFP.out (by rw [← e, hxe]; exact List.getElem_mem hkp)
                have hne := str_ne hxt
                clear hxt hxe hkp e6
                go_wp2
                go_round
                case rel => exact ⟨k + 1, by omega, by go_num⟩
                case measure => simp [intOf]; omega
              · obtain rfl : k = l := by omega
                have HNEW : Hid (∀ j u, (p.map Value.string)[j]? = some u → w5.cell? (a5.add j) = some u) := cells_of HPn
                go_wp2_with (first | (at_builtin; go_must (refine wpList_append_own_at _ rfl (.tmp 47) (.tmp 51) 57 rfl w2.heap.size 9 j0 (.string ByteArray.empty) 1 16 Tryd.underlying57 J0.out Y0.out Y1.out Y2.out rfl (by decide) v1 _ _ rfl HO1.out a5 _ _ (p.map Value.string) rfl (by rw [List.length_map, ← HL.out, Nat.mul_one]) HNEW.out (by intro u hu; obtain ⟨s, _, rfl⟩ := List.mem_map.1 hu; rfl) (by have := HRT.out; simp only [maxLen]; omega) (by have := HRT.out; omega) ((yhide HB5.out.size).out) ?_; intro v9 w9 ho9 hg9 hn9 ha9; clear hn9 ha9; have HO9 := yhide ho9; have HB9 : Hid (Below w2.heap.size w2 w9) := HB5.out.grown hg9 (yhide HB5.out.size).out (fun g' e => (HO1.out.lt g' e).1); clear ho9 hg9)) | fail)
                go_roundw
                case rel => exact ⟨i + 1, glue t (css.take (i + 1)), by omega, by first | rfl | go_num, rfl, by unfold Hid; rw [HR.out]; have h9 := HO9.out; rw [HL.out] at h9; rw [List.length_append, List.map_append]; exact h9, HB9⟩
                case measure => simp [intOf]; omega
      · obtain rfl : i = m := by omega
        have e1 : rs = xs := by rw [hrs.out, List.take_of_length_le (by rw [← HM.out]; exact Nat.le_refl _), HG.out]
        subst e1
        obtain ⟨A8, c8, hv8, hs8⟩ := own_ss hown.out
        have HV8 := yhide hv8
        rw [← HN.out] at hv8
        subst hv8
        have HX : Ss wr A rs := h.up hbw
        have CT : Hid (Calls Tryd.prog 52 #[.slice A8 n c8, .slice A n c] wr (TextsR wr true)) := texts_h hs8 HX HN.out HN.out (by omega) (by omega) (decide_eq_true rfl)
        have HBF : Hid (Below w.heap.size w wr) := HB.out.trans (hbw.out.mono HB.out.size)
        clear HV8 hown hrs
        go_wp2_with (first | (go_at_call 52; (with_reducible refine CT.out.mono ?_); rintro e w6 ⟨rfl, hb⟩; replace HBF : Hid (Below w.heap.size w w6) := HBF.out.trans (hb.out.mono HBF.out.size); clear hb) | fail)
        go_ret
        exact ⟨rfl, HBF⟩
theorem wcuts_all {A : Option Addr} {n c : Nat} {xs : List ByteArray} {t : ByteArray} (w : World) (h : InStrs w A n c xs) (_ : t.size ≤ maxLen) :
    Calls Tryd.prog 9 #[.slice A n c, .string t] w fun e w' => e = .returned (.bool true) ∧ Below w.heap.size w w' :=
  (wcuts_walk h.2.2 h.1).mono fun _ _ ⟨he, hb⟩ => ⟨he, hb⟩
end Go.Proofs.YteahcbeohopdlaaDoor
