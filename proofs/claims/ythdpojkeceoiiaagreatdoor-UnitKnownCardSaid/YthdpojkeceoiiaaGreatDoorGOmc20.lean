/- Several texts in one, each with its own sentence and conditions. -/
import Derived.Test.YthdpojkeceoiiaaGreatDoorGOmc2
import Derived.Test.YthdpojkeceoiiaaGreatDoorGOmc19
import Derived.Laws.AppendOwnNone
import Derived.Test.YthdpojkeceoiiaaGreatDoorGOmc0
section
/- The document's own Join. Conditions: a text that fits. -/
open Go.RowKit
set_option maxRecDepth 100000
namespace Go.Proofs.YthdpojkeceoiiaaGreatDoor
section
variable {α : Type} {t : α} {css : List (List α)}
theorem glue_more {i : Nat} (h : i < css.length) (h0 : i ≠ 0) : glue t (css.take (i + 1)) = glue t (css.take i) ++ t :: css[i] := by
  rw [List.take_succ_eq_append_getElem h, glue_snoc (by intro e; rw [List.take_eq_nil_iff] at e; rcases e with e | e; (· exact h0 e); (· rw [e] at h; simp at h))]
theorem glue_one (h : 0 < css.length) : glue t (css.take 1) = css[0] := by
  cases css with
  | nil => simp at h
  | cons c css => rfl
theorem glue_le (i : Nat) : (glue t (css.take i)).length ≤ (glue t css).length := by
  induction css generalizing i with
  | nil => simp
  | cons c css ih =>
    cases i with
    | zero => simp [glue]
    | succ i =>
      rw [List.take_succ_cons]
      cases css with
      | nil => simp
      | cons d css =>
        have := ih i
        cases i with
        | zero => simp [glue]
        | succ i =>
          rw [List.take_succ_cons] at this ⊢
          rw [glue_cons _ (List.cons_ne_nil _ _), glue_cons _ (List.cons_ne_nil _ _)]
          simp only [List.length_append, List.length_cons] at this ⊢
          omega
end
theorem ystr_ret {t u : ByteArray} (h : t = u) : Ending.returned (.string t) = .returned (.string u) := by rw [h]
theorem app_data (s t : ByteArray) : (s ++ t).data.toList = s.data.toList ++ t.data.toList := by simp
theorem rjoin_math {S x : ByteArray} {ls : List (List UInt8)} {k : Nat} (hS : S.data.toList = glue 45 (ls.take k)) (hx : ls[k]? = some x.data.toList) (h0 : k ≠ 0) : (S ++ ⟨#[45]⟩ ++ x).data.toList = glue 45 (ls.take (k + 1)) := by
  have hk : k < ls.length := by
    rcases Nat.lt_or_ge k ls.length with h1 | h1
    · exact h1
    · rw [List.getElem?_eq_none h1] at hx; cases hx
  rw [List.getElem?_eq_getElem hk] at hx
  injection hx with hx
  rw [glue_more hk h0, app_data, app_data, hS, hx]
  simp
theorem rjoin_math0 {S x : ByteArray} {ls : List (List UInt8)} (hS : S.data.toList = glue 45 (ls.take 0)) (hx : ls[0]? = some x.data.toList) : (S ++ x).data.toList = glue 45 (ls.take (0 + 1)) := by
  have hk : 0 < ls.length := by
    rcases Nat.lt_or_ge 0 ls.length with h1 | h1
    · exact h1
    · rw [List.getElem?_eq_none h1] at hx; cases hx
  rw [List.getElem?_eq_getElem hk] at hx
  injection hx with hx
  rw [glue_one hk, app_data, hS, hx]
  rfl
set_option maxHeartbeats 1000000 in
theorem rjoin_any {A : Option Addr} {n c : Nat} {xs : List ByteArray} {w : World} (h : Ss w A xs) (hn : n = xs.length) (hN : n ≤ 1000000) (hl : (glue 45 (xs.map (·.data.toList))).length ≤ 140737488355328) :
    Calls Tryz.prog 73 #[.slice A n c] w fun e w' => e = .returned (.string (joinS xs)) ∧ w = w' := by
  have HN := yhide hn
  obtain ⟨ls, hls⟩ : ∃ ls, ls = xs.map (·.data.toList) := ⟨_, rfl⟩
  have HL : Hid (ls = xs.map (·.data.toList)) := hls
  have HB : Hid (∀ i, (glue 45 (ls.take i)).length ≤ 140737488355328) := fun i => Nat.le_trans (glue_le i) (by rw [hls]; exact hl)
  clear hn hl hls
  go_enter Tryz.func73, Tryz.ntmps73
  go_wp2
  go_loop [3, 4] (fun sv iv => ∃ (k : Nat) (S : ByteArray), k ≤ n ∧ iv = .int .i64 (k : Int) ∧ sv = .string S ∧ Hid (S.data.toList = glue 45 (ls.take k))) (fun _ iv => n - (intOf iv).toNat)
  case atStart => exact ⟨0, _, Nat.zero_le _, rfl, rfl, rfl⟩
  case round =>
    obtain ⟨k, S, hk, rfl, rfl, hS⟩ := hrel
    by_cases hlt : k < n
    · have hx : k < xs.length := by rw [← HN.out]; exact hlt
      obtain ⟨ad, rfl, hb, hcell⟩ := h.out.at_ hx
      obtain ⟨x, hxe⟩ : ∃ x, x = xs[k] := ⟨_, rfl⟩
      rw [← hxe] at hcell
      have HX : Hid (ls[k]? = some x.data.toList) := by
        unfold Hid
        rw [HL.out, List.getElem?_map, List.getElem?_eq_getElem hx, hxe]; rfl
      clear hxe hx
      by_cases h0 : k = 0
      · subst h0
        have HM := yhide (rjoin_math0 hS.out HX.out)
        have hsz : S.size + x.size ≤ 140737488355328 := by
          have h1 := HB.out (0 + 1)
          rw [← HM.out, app_data, List.length_append, ← Lib.size_eq, ← Lib.size_eq] at h1
          exact h1
        have q1 : ¬ 9223372036854775807 < S.size + x.size := by omega
        have q2 : S.size + x.size ≤ 9223372036854775807 := by omega
        replace hcell : w.cell? ad = some (.string x) := by rw [show ad.add 0 = ad by simp [Addr.add]] at hcell; exact hcell
        clear hsz
        go_wp2
        go_round
        case rel => exact ⟨0 + 1, _, by omega, by first | rfl | go_num, rfl, HM.out⟩
        case measure => simp [intOf]; omega
      · have HM := yhide (rjoin_math hS.out HX.out h0)
        have hsz : S.size + 1 + x.size ≤ 140737488355328 := by
          have h1 := HB.out (k + 1)
          rw [← HM.out, app_data, app_data, List.length_append, List.length_append, ← Lib.size_eq, ← Lib.size_eq] at h1
          exact h1
        have q1 : ¬ 9223372036854775807 < S.size + 1 := by omega
        have q2 : S.size + 1 ≤ 9223372036854775807 := by omega
        have q3 : ¬ 9223372036854775807 < S.size + 1 + x.size := by omega
        have q4 : S.size + 1 + x.size ≤ 9223372036854775807 := by omega
        have d0 : decide (0 < k) = true := decide_eq_true (by omega)
        have d1 : 0 < k := by omega
        clear hsz h0
        go_wp2
        go_round
        case rel => exact ⟨k + 1, _, by omega, by go_num, rfl, HM.out⟩
        case measure => simp [intOf]; omega
    · obtain rfl : k = n := by omega
      have HE : Hid (S = joinS xs) := by
        refine ByteArray.ext (Array.ext' ?_)
        have h1 := hS.out
        rw [HL.out, List.take_of_length_le (by rw [List.length_map, ← HN.out]; exact Nat.le_refl _)] at h1
        rw [h1]; rfl
      go_wp2
      go_ret
      exact ⟨ystr_ret HE.out, rfl⟩
end Go.Proofs.YthdpojkeceoiiaaGreatDoor
end

section
/- The document's own ShowPart. Conditions: atoms that fit, at most 1000 a row. -/
open Go.RowKit
set_option maxRecDepth 100000
namespace Go.Proofs.YthdpojkeceoiiaaGreatDoor
/-- Atoms, atoms below them, a number's text. -/
abbrev PL := List AL × List AL × ByteArray
def oneB : ByteArray := ⟨#[49]⟩
/-- The words of a part. -/
def partW (p : PL) : List ByteArray := if p.2.1 = [] ∧ p.2.2 = oneB then showsA p.1 else if p.2.2 = oneB then showsA p.1 ++ [perB] ++ showsA p.2.1 else showsA p.1 ++ [perB] ++ [p.2.2] ++ showsA p.2.1
def partS (p : PL) : ByteArray := joinS (partW p)
def FitL (l : List AL) : Prop := l.length ≤ 1000 ∧ ∀ a ∈ l, a.1.size ≤ 2000000 ∧ a.2.1.size ≤ 2000000
theorem str_tests {t : ByteArray} {b : Bool} (h : decide (t = oneB) = b) : (t.toList == [49]) = b ∧ (t.toList != [49]) = !b := by
  have e : (t.toList == [49]) = b := by
    cases b with
    | true =>
      have := of_decide_eq_true h
      subst this
      decide +kernel
    | false =>
      have := of_decide_eq_false h
      have h2 := str_ne this
      rwa [show oneB.toList = [49] from by decide +kernel] at h2
  exact ⟨e, by rw [bne, e]⟩
theorem partW_len (p : PL) (h : p.1.length ≤ 1000) (h' : p.2.1.length ≤ 1000) : (partW p).length ≤ 10000 := by
  unfold partW showsA
  split
  · simp; omega
  · split <;> simp <;> omega
/-- What stays while a row of strings is made. -/
theorem grown_on {W w2 w3 : World} {B n : Nat} {e : TypeId} {v : Value} {xs : List Value} {o : Obj} (hb : Hid (Below B W w2)) (hB : B ≤ w2.heap.size) (ho : w2.ownsRow B e 1 v n xs) (hg : (w2.alloc o).grownBy w3 v.ownBlock) : Hid (Below B W w3) :=
  (hb.out.alloc hB _).grown hg (Nat.le_trans hB (by simp)) (fun g' e => (ho.lt g' e).1)
theorem grown_on' {W w2 w3 : World} {B n : Nat} {e : TypeId} {v : Value} {xs : List Value} (hb : Hid (Below B W w2)) (hB : B ≤ w2.heap.size) (ho : w2.ownsRow B e 1 v n xs) (hg : w2.grownBy w3 v.ownBlock) : Hid (Below B W w3) :=
  hb.out.grown hg hB (fun g' e => (ho.lt g' e).1)
theorem ss_own' {W : World} {base n c : Nat} {e : TypeId} {A : Option Addr} {L : List Value} {zs : List ByteArray} (h : W.ownsRow base e 1 (.slice A n c) n L) (hL : L = zs.map Value.string) (hn : n = zs.length) : Ss W A zs := by subst hn; subst hL; exact RS.of_own h
theorem ss_own {W : World} {base n c : Nat} {e : TypeId} {A : Option Addr} {xs : List ByteArray} (h : W.ownsRow base e 1 (.slice A n c) n (xs.map Value.string)) (hn : n = xs.length) : Ss W A xs := by subst hn; exact RS.of_own h
theorem ss_news {W : World} {A : Option Addr} {xs : List ByteArray} (h : Ss W A xs) (h0 : 0 < xs.length) : ∃ ad, A = some ad ∧ ∀ j u, (xs.map Value.string)[j]? = some u → W.cell? (ad.add j) = some u := by
  obtain ⟨ad, e, _, hc⟩ := h.out h0
  refine ⟨ad, e, fun j u hu => ?_⟩
  rw [List.getElem?_map] at hu
  cases e2 : xs[j]? with
  | none => rw [e2] at hu; cases hu
  | some x => rw [e2] at hu; injection hu with hu; subst hu; exact hc j x e2
theorem all_str (xs : List ByteArray) : ∀ u ∈ xs.map Value.string, u.oneCell' = true := by
  intro u hu
  obtain ⟨x, _, rfl⟩ := List.mem_map.1 hu
  rfl
set_option maxHeartbeats 8000000 in
theorem rpart_any {A B : Option Addr} {n c m d : Nat} {p : PL} {w : World} (h : Cs w A (cellsA p.1)) (hn : n = p.1.length) (h' : Cs w B (cellsA p.2.1)) (hm : m = p.2.1.length) (hf : FitL p.1) (hf' : FitL p.2.1) (hJ : (glue 45 ((partW p).map (·.data.toList))).length ≤ 140737488355328) :
    Calls Tryz.prog 46 #[.agg #[.slice A n c, .slice B m d, .string p.2.2]] w (StrR w (partS p)) := by
  obtain ⟨W1, hW1⟩ : ∃ X, X = w.alloc (.cells #[.slice A n c, .slice B m d, .string p.2.2] 86) := ⟨_, rfl⟩
  have HA1 : At W1 w.heap.size [.slice A n c, .slice B m d, .string p.2.2] := by rw [hW1]; exact at_new0 _ _ _
  have HB1 : Bel w W1 := by rw [hW1]; exact (Bel.refl w).al _
  have hb0 : Hid (Below w.heap.size w W1) := HB1
  have C1 : Hid (Calls Tryz.prog 72 #[.slice A n c] W1 (StrsO W1 (showsA p.1))) := rshows_any (h.up hb0) hn (by have := hf.1; omega) hf.2
  have C2 : Hid (∀ W', Hid (Below W1.heap.size W1 W') → Calls Tryz.prog 72 #[.slice B m d] W' (StrsO W' (showsA p.2.1))) := fun W' hb => rshows_any ((h'.up hb0).up hb) hm (by have := hf'.1; omega) hf'.2
  have hPL := partW_len p hf.1 hf'.1
  have CJ : Hid (∀ (W' : World) (A' : Option Addr) (n' c' : Nat), Ss W' A' (partW p) → n' = (partW p).length → Calls Tryz.prog 73 #[.slice A' n' c'] W' fun e w' => e = .returned (.string (partS p)) ∧ w' = W') := fun W' A' n' c' hS hL =>
    (rjoin_any hS hL (by omega) hJ).mono fun _ _ h => ⟨h.1, h.2.symm⟩
  have LX : (showsA p.1).length ≤ 1000 := by unfold showsA; rw [List.length_map]; exact hf.1
  have LY : (showsA p.2.1).length ≤ 1000 := by unfold showsA; rw [List.length_map]; exact hf'.1
  have HM : Hid (m = (showsA p.2.1).length) := by unfold Hid showsA; rw [List.length_map]; exact hm
  have HZ : Hid (p.2.1 = [] ↔ m = 0) := by unfold Hid; rw [hm, List.length_eq_zero_iff]
  have HP : Hid (partW p = if p.2.1 = [] ∧ p.2.2 = oneB then showsA p.1 else if p.2.2 = oneB then showsA p.1 ++ [perB] ++ showsA p.2.1 else showsA p.1 ++ [perB] ++ [p.2.2] ++ showsA p.2.1) := rfl
  obtain ⟨S, hS⟩ : ∃ S, partS p = S := ⟨_, rfl⟩
  obtain ⟨zs, hzs⟩ : ∃ zs, partW p = zs := ⟨_, rfl⟩
  rw [hS] at CJ ⊢
  rw [hzs] at CJ HP
  clear h h' hn hm hf hf' hJ hPL hS hzs hb0
  obtain ⟨l1, l2, t⟩ := p
  have HW := khide hW1
  clear hW1
  replace HW : Hid (W1 = w.alloc (.cells #[.slice A n c, .slice B m d, .string t] 86)) := HW
  obtain ⟨xs, hxs⟩ : ∃ xs, showsA l1 = xs := ⟨_, rfl⟩
  obtain ⟨ys, hys⟩ : ∃ ys, showsA l2 = ys := ⟨_, rfl⟩
  replace HA1 : At W1 w.heap.size [.slice A n c, .slice B m d, .string t] := HA1
  replace C1 : Hid (Calls Tryz.prog 72 #[.slice A n c] W1 (StrsO W1 xs)) := hxs ▸ C1
  replace C2 : Hid (∀ W', Hid (Below W1.heap.size W1 W') → Calls Tryz.prog 72 #[.slice B m d] W' (StrsO W' ys)) := hys ▸ C2
  replace LX : xs.length ≤ 1000 := hxs ▸ LX
  replace LY : ys.length ≤ 1000 := hys ▸ LY
  replace HM : Hid (m = ys.length) := hys ▸ HM
  replace HZ : Hid (l2 = [] ↔ m = 0) := HZ
  replace HP : Hid (zs = if l2 = [] ∧ t = oneB then xs else if t = oneB then xs ++ [perB] ++ ys else xs ++ [perB] ++ [t] ++ ys) := by rw [← hxs, ← hys]; exact HP
  clear hxs hys
  show Calls Tryz.prog 46 #[.agg #[.slice A n c, .slice B m d, .string t]] w (StrR w S)
  obtain ⟨i0, hi, hz0, hz1, hz2⟩ := info_parts hinfoStr
  have J0 := khide hi; have Y0 := khide hz0; have Y1 := khide hz1; have Y2 := khide hz2
  clear hi hz0 hz1 hz2
  have ha_0 := HA1.c0; have ha_1 := HA1.c1; have ha_2 := HA1.c2; have ha_l := HA1.lt
  obtain ⟨b, hb⟩ : ∃ b, decide (t = oneB) = b := ⟨_, rfl⟩
  obtain ⟨dt1, dt2⟩ := str_tests hb
  have HBT := khide hb
  clear hb
  by_cases hm0 : m = 0
  · have dm : decide ((0 : Int) < (m : Int)) = false := decide_eq_false (by omega)
    have dn : decide (0 < m) = false := decide_eq_false (by omega)
    have dq : ¬ 0 < m := by omega
    have HL2 : Hid (l2 = []) := HZ.out.2 hm0
    obtain rfl : ys = [] := List.eq_nil_of_length_eq_zero (by rw [← HM.out, hm0])
    clear hm0
    cases b with
    | true =>
      have HV : Hid (zs = xs) := by rw [HP.out, if_pos ⟨HL2.out, of_decide_eq_true HBT.out⟩]; rfl
      go_enter Tryz.func46, Tryz.ntmps46
      go_upto_region 1 with fail
      rw [← HW.out]
      go_wp2_with (first | (go_at_call 72; (with_reducible refine (C1.out).mono ?_); rintro e w2 ⟨A1, c1, rfl, -, -, HO2, hb1⟩; have HB2 : Hid (Below W1.heap.size W1 w2) := hb1; have HS2 : Hid (W1.heap.size ≤ w2.heap.size) := hb1.size; clear hb1; clear ha_0 ha_1 ha_2 ha_l; have HA2 := HA1.up HB2; have ha_0 := HA2.c0; have ha_1 := HA2.c1; have ha_2 := HA2.c2; have ha_l := HA2.lt) | (go_at_call 73; (with_reducible refine (CJ.out _ _ _ _ (ss_own' HO2.out (by rw [HV.out]; all_goals (first | (simp [perB]; done) | (simp [perB]; omega))) (by rw [HV.out]; all_goals (first | (simp [perB]; done) | (simp [perB]; omega)))) (by rw [HV.out]; all_goals (first | (simp [perB]; done) | (simp [perB]; omega)))).mono ?_); rintro e w9 ⟨rfl, rfl⟩) | fail)
      go_ret
      exact ⟨rfl, HB1.up HB2⟩
    | false =>
      have HV : Hid (zs = xs ++ [perB] ++ [t]) := by rw [HP.out, if_neg (fun h => of_decide_eq_false HBT.out h.2), if_neg (of_decide_eq_false HBT.out)]; exact List.append_nil _
      go_enter Tryz.func46, Tryz.ntmps46
      go_upto_region 1 with fail
      rw [← HW.out]
      go_wp2_with (first | (go_at_call 72; (with_reducible refine (C1.out).mono ?_); rintro e w2 ⟨A1, c1, rfl, -, -, HO2, hb1⟩; have HB2 : Hid (Below W1.heap.size W1 w2) := hb1; have HS2 : Hid (W1.heap.size ≤ w2.heap.size) := hb1.size; clear hb1; clear ha_0 ha_1 ha_2 ha_l; have HA2 := HA1.up HB2; have ha_0 := HA2.c0; have ha_1 := HA2.c1; have ha_2 := HA2.c2; have ha_l := HA2.lt) | (at_builtin; refine wpList_append_own _ rfl (.tmp 16) (.tmp 17) 23 rfl W1.heap.size 9 i0 (.string ByteArray.empty) 1 16 Tryz.underlying23 J0.out Y0.out Y1.out Y2.out rfl (by decide) _ _ _ rfl (HO2.out.alloc _) ⟨w2.heap.size, 0, none⟩ 1 1 [.string ⟨#[112, 101, 114]⟩] rfl rfl (at_news (at_new0 _ _ _)) (one_str _) (by simp only [maxLen]; omega) (by omega) (Nat.le_trans HS2.out (by simp)) ?_; intro v3 w3 ho hg hn1; clear hn1; obtain ⟨A3, c3, rfl, _⟩ := own_slice ho; have HB3 : Hid (Below W1.heap.size W1 w3) := grown_on HB2 HS2.out HO2.out hg; have HS3 : Hid (W1.heap.size ≤ w3.heap.size) := HB3.out.size; have HO3 := khide ho; clear ho hg; clear ha_0 ha_1 ha_2 ha_l; have HA3 := HA1.up HB3; have ha_0 := HA3.c0; have ha_1 := HA3.c1; have ha_2 := HA3.c2; have ha_l := HA3.lt) | (at_builtin; refine wpList_append_own _ rfl (.tmp 22) (.tmp 25) 23 rfl W1.heap.size 9 i0 (.string ByteArray.empty) 1 16 Tryz.underlying23 J0.out Y0.out Y1.out Y2.out rfl (by decide) _ _ _ rfl (HO3.out.alloc _) ⟨w3.heap.size, 0, none⟩ 1 1 [.string t] rfl rfl (at_news (at_new0 _ _ _)) (one_str _) (by simp only [maxLen]; omega) (by omega) (Nat.le_trans HS3.out (by simp)) ?_; intro v4 w4 ho hg hn1; clear hn1; obtain ⟨A4, c4, rfl, _⟩ := own_slice ho; have HB4 : Hid (Below W1.heap.size W1 w4) := grown_on HB3 HS3.out HO3.out hg; have HS4 : Hid (W1.heap.size ≤ w4.heap.size) := HB4.out.size; have HO4 := khide ho; clear ho hg; clear ha_0 ha_1 ha_2 ha_l; have HA4 := HA1.up HB4; have ha_0 := HA4.c0; have ha_1 := HA4.c1; have ha_2 := HA4.c2; have ha_l := HA4.lt) | (go_at_call 72; (with_reducible refine (C2.out _ HB4).mono ?_); rintro e w5 ⟨AD, cd, rfl, HAD, HZD, HOD, hbd⟩; obtain ⟨rfl, rfl⟩ := HZD.out rfl; have HB5 : Hid (Below W1.heap.size W1 w5) := HB4.out.trans (Below.mono hbd HS4.out); have HS5 : Hid (W1.heap.size ≤ w5.heap.size) := HB5.out.size; have HO5 := khide (own_up HO4.out hbd.hid); clear ha_0 ha_1 ha_2 ha_l; have HA5 := HA1.up HB5; have ha_0 := HA5.c0; have ha_1 := HA5.c1; have ha_2 := HA5.c2; have ha_l := HA5.lt) | (at_builtin; refine wpList_append_own_none rfl (.tmp 27) (.tmp 30) 23 rfl W1.heap.size 9 i0 1 Tryz.underlying23 J0.out _ _ _ rfl HO5.out rfl ?_) | (go_at_call 73; (with_reducible refine (CJ.out _ _ _ _ (ss_own' HO5.out (by rw [HV.out]; all_goals (first | (simp [perB]; done) | (simp [perB]; omega))) (by rw [HV.out]; all_goals (first | (simp [perB]; done) | (simp [perB]; omega)))) (by rw [HV.out]; all_goals (first | (simp [perB]; done) | (simp [perB]; omega)))).mono ?_); rintro e w9 ⟨rfl, rfl⟩) | fail)
      go_ret
      exact ⟨rfl, HB1.up HB5⟩
  · have dm : decide ((0 : Int) < (m : Int)) = true := decide_eq_true (by omega)
    have dn : decide (0 < m) = true := decide_eq_true (by omega)
    have dq : 0 < m := by omega
    have HL2 : Hid (l2 ≠ []) := fun h => hm0 (HZ.out.1 h)
    have hy0 : 0 < ys.length := by rw [← HM.out]; omega
    clear hm0
    cases b with
    | true =>
      have HV : Hid (zs = xs ++ [perB] ++ ys) := by rw [HP.out, if_neg (fun h => HL2.out h.1), if_pos (of_decide_eq_true HBT.out)]; rfl
      go_enter Tryz.func46, Tryz.ntmps46
      go_upto_region 1 with fail
      rw [← HW.out]
      go_wp2_with (first | (go_at_call 72; (with_reducible refine (C1.out).mono ?_); rintro e w2 ⟨A1, c1, rfl, -, -, HO2, hb1⟩; have HB2 : Hid (Below W1.heap.size W1 w2) := hb1; have HS2 : Hid (W1.heap.size ≤ w2.heap.size) := hb1.size; clear hb1; clear ha_0 ha_1 ha_2 ha_l; have HA2 := HA1.up HB2; have ha_0 := HA2.c0; have ha_1 := HA2.c1; have ha_2 := HA2.c2; have ha_l := HA2.lt) | (at_builtin; refine wpList_append_own _ rfl (.tmp 16) (.tmp 17) 23 rfl W1.heap.size 9 i0 (.string ByteArray.empty) 1 16 Tryz.underlying23 J0.out Y0.out Y1.out Y2.out rfl (by decide) _ _ _ rfl (HO2.out.alloc _) ⟨w2.heap.size, 0, none⟩ 1 1 [.string ⟨#[112, 101, 114]⟩] rfl rfl (at_news (at_new0 _ _ _)) (one_str _) (by simp only [maxLen]; omega) (by omega) (Nat.le_trans HS2.out (by simp)) ?_; intro v3 w3 ho hg hn1; clear hn1; obtain ⟨A3, c3, rfl, _⟩ := own_slice ho; have HB3 : Hid (Below W1.heap.size W1 w3) := grown_on HB2 HS2.out HO2.out hg; have HS3 : Hid (W1.heap.size ≤ w3.heap.size) := HB3.out.size; have HO3 := khide ho; clear ho hg; clear ha_0 ha_1 ha_2 ha_l; have HA3 := HA1.up HB3; have ha_0 := HA3.c0; have ha_1 := HA3.c1; have ha_2 := HA3.c2; have ha_l := HA3.lt) | (go_at_call 72; (with_reducible refine (C2.out _ HB3).mono ?_); rintro e w4 ⟨AD, cd, rfl, HAD, HZD, HOD, hbd⟩; obtain ⟨ad, rfl, hnews⟩ := ss_news (ss_own HOD.out rfl) hy0; have HB4 : Hid (Below W1.heap.size W1 w4) := HB3.out.trans (Below.mono hbd HS3.out); have HS4 : Hid (W1.heap.size ≤ w4.heap.size) := HB4.out.size; have HO4 := khide (own_up HO3.out hbd.hid); clear ha_0 ha_1 ha_2 ha_l; have HA4 := HA1.up HB4; have ha_0 := HA4.c0; have ha_1 := HA4.c1; have ha_2 := HA4.c2; have ha_l := HA4.lt) | (at_builtin; refine wpList_append_own _ rfl (.tmp 27) (.tmp 30) 23 rfl W1.heap.size 9 i0 (.string ByteArray.empty) 1 16 Tryz.underlying23 J0.out Y0.out Y1.out Y2.out rfl (by decide) _ _ _ rfl HO4.out ad ys.length cd (ys.map Value.string) rfl (by simp) hnews (all_str ys) (by simp only [maxLen]; omega) (by omega) HS4.out ?_; intro v5 w5 ho hg hn1; clear hn1; obtain ⟨A5, c5, rfl, _⟩ := own_slice ho; have HB5 : Hid (Below W1.heap.size W1 w5) := grown_on' HB4 HS4.out HO4.out hg; have HS5 : Hid (W1.heap.size ≤ w5.heap.size) := HB5.out.size; have HO5 := khide ho; clear ho hg; clear ha_0 ha_1 ha_2 ha_l; have HA5 := HA1.up HB5; have ha_0 := HA5.c0; have ha_1 := HA5.c1; have ha_2 := HA5.c2; have ha_l := HA5.lt) | (go_at_call 73; (with_reducible refine (CJ.out _ _ _ _ (ss_own' HO5.out (by rw [HV.out]; all_goals (first | (simp [perB]; done) | (simp [perB]; omega))) (by rw [HV.out]; all_goals (first | (simp [perB]; done) | (simp [perB]; omega)))) (by rw [HV.out]; all_goals (first | (simp [perB]; done) | (simp [perB]; omega)))).mono ?_); rintro e w9 ⟨rfl, rfl⟩) | fail)
      go_ret
      exact ⟨rfl, HB1.up HB5⟩
    | false =>
      have HV : Hid (zs = xs ++ [perB] ++ [t] ++ ys) := by rw [HP.out, if_neg (fun h => HL2.out h.1), if_neg (of_decide_eq_false HBT.out)]; rfl
      go_enter Tryz.func46, Tryz.ntmps46
      go_upto_region 1 with fail
      rw [← HW.out]
      go_wp2_with (first | (go_at_call 72; (with_reducible refine (C1.out).mono ?_); rintro e w2 ⟨A1, c1, rfl, -, -, HO2, hb1⟩; have HB2 : Hid (Below W1.heap.size W1 w2) := hb1; have HS2 : Hid (W1.heap.size ≤ w2.heap.size) := hb1.size; clear hb1; clear ha_0 ha_1 ha_2 ha_l; have HA2 := HA1.up HB2; have ha_0 := HA2.c0; have ha_1 := HA2.c1; have ha_2 := HA2.c2; have ha_l := HA2.lt) | (at_builtin; refine wpList_append_own _ rfl (.tmp 16) (.tmp 17) 23 rfl W1.heap.size 9 i0 (.string ByteArray.empty) 1 16 Tryz.underlying23 J0.out Y0.out Y1.out Y2.out rfl (by decide) _ _ _ rfl (HO2.out.alloc _) ⟨w2.heap.size, 0, none⟩ 1 1 [.string ⟨#[112, 101, 114]⟩] rfl rfl (at_news (at_new0 _ _ _)) (one_str _) (by simp only [maxLen]; omega) (by omega) (Nat.le_trans HS2.out (by simp)) ?_; intro v3 w3 ho hg hn1; clear hn1; obtain ⟨A3, c3, rfl, _⟩ := own_slice ho; have HB3 : Hid (Below W1.heap.size W1 w3) := grown_on HB2 HS2.out HO2.out hg; have HS3 : Hid (W1.heap.size ≤ w3.heap.size) := HB3.out.size; have HO3 := khide ho; clear ho hg; clear ha_0 ha_1 ha_2 ha_l; have HA3 := HA1.up HB3; have ha_0 := HA3.c0; have ha_1 := HA3.c1; have ha_2 := HA3.c2; have ha_l := HA3.lt) | (at_builtin; refine wpList_append_own _ rfl (.tmp 22) (.tmp 25) 23 rfl W1.heap.size 9 i0 (.string ByteArray.empty) 1 16 Tryz.underlying23 J0.out Y0.out Y1.out Y2.out rfl (by decide) _ _ _ rfl (HO3.out.alloc _) ⟨w3.heap.size, 0, none⟩ 1 1 [.string t] rfl rfl (at_news (at_new0 _ _ _)) (one_str _) (by simp only [maxLen]; omega) (by omega) (Nat.le_trans HS3.out (by simp)) ?_; intro v4 w4 ho hg hn1; clear hn1; obtain ⟨A4, c4, rfl, _⟩ := own_slice ho; have HB4 : Hid (Below W1.heap.size W1 w4) := grown_on HB3 HS3.out HO3.out hg; have HS4 : Hid (W1.heap.size ≤ w4.heap.size) := HB4.out.size; have HO4 := khide ho; clear ho hg; clear ha_0 ha_1 ha_2 ha_l; have HA4 := HA1.up HB4; have ha_0 := HA4.c0; have ha_1 := HA4.c1; have ha_2 := HA4.c2; have ha_l := HA4.lt) | (go_at_call 72; (with_reducible refine (C2.out _ HB4).mono ?_); rintro e w5 ⟨AD, cd, rfl, HAD, HZD, HOD, hbd⟩; obtain ⟨ad, rfl, hnews⟩ := ss_news (ss_own HOD.out rfl) hy0; have HB5 : Hid (Below W1.heap.size W1 w5) := HB4.out.trans (Below.mono hbd HS4.out); have HS5 : Hid (W1.heap.size ≤ w5.heap.size) := HB5.out.size; have HO5 := khide (own_up HO4.out hbd.hid); clear ha_0 ha_1 ha_2 ha_l; have HA5 := HA1.up HB5; have ha_0 := HA5.c0; have ha_1 := HA5.c1; have ha_2 := HA5.c2; have ha_l := HA5.lt) | (at_builtin; refine wpList_append_own _ rfl (.tmp 27) (.tmp 30) 23 rfl W1.heap.size 9 i0 (.string ByteArray.empty) 1 16 Tryz.underlying23 J0.out Y0.out Y1.out Y2.out rfl (by decide) _ _ _ rfl HO5.out ad ys.length cd (ys.map Value.string) rfl (by simp) hnews (all_str ys) (by simp only [maxLen]; omega) (by omega) HS5.out ?_; intro v6 w6 ho hg hn1; clear hn1; obtain ⟨A6, c6, rfl, _⟩ := own_slice ho; have HB6 : Hid (Below W1.heap.size W1 w6) := grown_on' HB5 HS5.out HO5.out hg; have HS6 : Hid (W1.heap.size ≤ w6.heap.size) := HB6.out.size; have HO6 := khide ho; clear ho hg; clear ha_0 ha_1 ha_2 ha_l; have HA6 := HA1.up HB6; have ha_0 := HA6.c0; have ha_1 := HA6.c1; have ha_2 := HA6.c2; have ha_l := HA6.lt) | (go_at_call 73; (with_reducible refine (CJ.out _ _ _ _ (ss_own' HO6.out (by rw [HV.out]; all_goals (first | (simp [perB]; done) | (simp [perB]; omega))) (by rw [HV.out]; all_goals (first | (simp [perB]; done) | (simp [perB]; omega)))) (by rw [HV.out]; all_goals (first | (simp [perB]; done) | (simp [perB]; omega)))).mono ?_); rintro e w9 ⟨rfl, rfl⟩) | fail)
      go_ret
      exact ⟨rfl, HB1.up HB6⟩
end Go.Proofs.YthdpojkeceoiiaaGreatDoor
end

section
/- Slices of parts that are read; the document's own ShowUnit. Conditions: parts that fit, at most 1000. -/
open Go.RowKit
set_option maxRecDepth 100000
namespace Go.Proofs.YthdpojkeceoiiaaGreatDoor
/-- A slice at A that reads as parts, below block B. -/
def RP (w : World) (B : Nat) (A : Option Addr) (ps : List PL) : Prop :=
  0 < ps.length → ∃ (ad : Addr) (us vs : Nat → Option Addr × Nat), A = some ad ∧ ad.block < B ∧ ∀ j p, ps[j]? = some p →
    w.cell? (ad.add (j * 3)) = some (.slice (us j).1 p.1.length (us j).2) ∧ w.cell? (ad.add (j * 3 + 1)) = some (.slice (vs j).1 p.2.1.length (vs j).2) ∧ w.cell? (ad.add (j * 3 + 2)) = some (.string p.2.2) ∧
    RC w B (us j).1 (cellsA p.1) ∧ RC w B (vs j).1 (cellsA p.2.1)
/-- In world W the slice at A reads as these parts. -/
def Ps (W : World) (A : Option Addr) (ps : List PL) : Prop := Hid (RP W W.heap.size A ps)
section
variable {w w' W W' : World} {B B' : Nat} {A : Option Addr} {ps : List PL}
theorem RP.keep (h : RP w B A ps) (hk : ∀ p : Addr, p.block < B → w'.cell? p = w.cell? p) : RP w' B A ps := fun hn => by
  obtain ⟨ad, us, vs, e, hb, hc⟩ := h hn
  refine ⟨ad, us, vs, e, hb, fun j p hj => ?_⟩
  obtain ⟨h1, h2, h3, h4, h5⟩ := hc j p hj
  exact ⟨(hk _ (by rw [yblock_add]; exact hb)).trans h1, (hk _ (by rw [yblock_add]; exact hb)).trans h2, (hk _ (by rw [yblock_add]; exact hb)).trans h3, h4.keep hk, h5.keep hk⟩
theorem RP.more (h : RP w B A ps) (hB : B ≤ B') : RP w B' A ps := fun hn => by
  obtain ⟨ad, us, vs, e, hb, hc⟩ := h hn
  refine ⟨ad, us, vs, e, by omega, fun j p hj => ?_⟩
  obtain ⟨h1, h2, h3, h4, h5⟩ := hc j p hj
  exact ⟨h1, h2, h3, h4.more hB, h5.more hB⟩
theorem RP.below (h : RP w B A ps) (hb : Below B w w') : RP w' B A ps := h.keep fun _ hp => hb.cell hp
theorem Ps.up (h : Ps W A ps) (hb : Hid (Below W.heap.size W W')) : Ps W' A ps := (h.out.below hb.out).more hb.out.size
theorem addr_zero (ad : Addr) : ad.add 0 = ad := by unfold Addr.add; simp
theorem add_next (ad : Addr) (q i : Nat) : (⟨(ad.add q).block, (ad.add q).off + (i + 1), none⟩ : Addr) = ad.add (q + (i + 1)) := by
  unfold Addr.add
  split <;> split <;> simp_all <;> omega
theorem Ps.at_ {k : Nat} {p : PL} (h : Ps W A ps) (hk : ps[k]? = some p) : ∃ (ad : Addr) (A1 A2 : Option Addr) (c1 c2 : Nat), A = some ad ∧ ad.block < W.heap.size ∧
    W.cell? (ad.add (k * 3)) = some (.slice A1 p.1.length c1) ∧ W.cell? ⟨(ad.add (k * 3)).block, (ad.add (k * 3)).off + 1, none⟩ = some (.slice A2 p.2.1.length c2) ∧ W.cell? ⟨(ad.add (k * 3)).block, (ad.add (k * 3)).off + 2, none⟩ = some (.string p.2.2) ∧
    Cs W A1 (cellsA p.1) ∧ Cs W A2 (cellsA p.2.1) := by
  have hl : k < ps.length := (List.getElem?_eq_some_iff.1 hk).1
  obtain ⟨ad, us, vs, e, hb, hc⟩ := h.out (by omega)
  obtain ⟨h1, h2, h3, h4, h5⟩ := hc k p hk
  refine ⟨ad, (us k).1, (vs k).1, (us k).2, (vs k).2, e, hb, h1, ?_, ?_, h4, h5⟩
  · rw [add_next ad (k * 3) 0]; exact h2
  · rw [add_next ad (k * 3) 1]; exact h3
end
def FitP (p : PL) : Prop := FitL p.1 ∧ FitL p.2.1 ∧ (glue 45 ((partW p).map (·.data.toList))).length ≤ 140737488355328
theorem partS_size {p : PL} (h : FitP p) : (partS p).size ≤ 140737488355328 := by
  have := h.2.2
  unfold partS joinS
  rw [Lib.size_eq] at *
  simpa using this
/-- Parts, one behind another. -/
def unitN (ps : List PL) : Nat → ByteArray
  | 0 => ⟨#[]⟩
  | k + 1 => (if 0 < k then unitN ps k ++ ⟨#[45, 97, 110, 100, 45]⟩ else unitN ps k) ++ (match ps[k]? with | none => ⟨#[]⟩ | some p => partS p)
def unitS (ps : List PL) : ByteArray := unitN ps ps.length
theorem unitN_size {ps : List PL} (h : ∀ p ∈ ps, FitP p) : ∀ k, (unitN ps k).size ≤ k * 140737488355333
  | 0 => Nat.zero_le _
  | k + 1 => by
    have ih := unitN_size h k
    have h1 : (match ps[k]? with | none => (⟨#[]⟩ : ByteArray) | some p => partS p).size ≤ 140737488355328 := by
      cases e : ps[k]? with
      | none => exact Nat.zero_le _
      | some p => exact partS_size (h p (List.mem_of_getElem? e))
    rw [unitN, ByteArray.size_append]
    by_cases h0 : 0 < k
    · rw [if_pos h0, ByteArray.size_append]
      have h2 : (⟨#[45, 97, 110, 100, 45]⟩ : ByteArray).size = 5 := rfl
      omega
    · rw [if_neg h0]; omega
set_option maxHeartbeats 4000000 in
theorem runit_any {A : Option Addr} {n c : Nat} {ps : List PL} {w : World} (h : Ps w A ps) (hn : n = ps.length) (hl : n ≤ 1000) (hf : ∀ p ∈ ps, FitP p) : Calls Tryz.prog 20 #[.slice A n c] w (StrR w (unitS ps)) := by
  have HN := khide hn
  have HF := khide hf
  clear hn hf
  go_enter Tryz.func20, Tryz.ntmps20
  go_wp2
  go_loopw [3, 4] (fun sv iv wr => ∃ (k : Nat) (s : ByteArray), k ≤ n ∧ iv = .int .i64 (k : Int) ∧ sv = .string s ∧ Hid (s = unitN ps k) ∧ Hid (Below w.heap.size w wr)) (fun _ iv _ => n - (intOf iv).toNat)
  case atStart => exact ⟨0, _, Nat.zero_le _, rfl, rfl, rfl, Below.refl _ _⟩
  case round =>
    obtain ⟨k, s, hk, rfl, rfl, HS, HB⟩ := hrel
    by_cases hlt : k < n
    · obtain ⟨p, hp⟩ : ∃ p, ps[k]? = some p := ⟨ps[k]'(by rw [← HN.out]; exact hlt), List.getElem?_eq_getElem _⟩
      have HFP : Hid (FitP p) := HF.out _ (List.mem_of_getElem? hp)
      obtain ⟨ad, A1, A2, c1, c2, rfl, had, a0, a1, a2, HC1, HC2⟩ := (h.up HB).at_ hp
      obtain ⟨l1, l2, t⟩ := p
      obtain ⟨S, hS⟩ : ∃ S, partS (l1, l2, t) = S := ⟨_, rfl⟩
      have hSS : S.size ≤ 140737488355328 := hS ▸ partS_size HFP.out
      have C0 : Hid (Calls Tryz.prog 46 #[.agg #[.slice A1 l1.length c1, .slice A2 l2.length c2, .string t]] wr (StrR wr S)) := hS ▸ rpart_any (p := (l1, l2, t)) HC1 rfl HC2 rfl HFP.out.1 HFP.out.2.1 HFP.out.2.2
      have hs0 : s.size ≤ k * 140737488355333 := by rw [HS.out]; exact unitN_size HF.out k
      have HX : Hid (unitN ps (k + 1) = (if 0 < k then s ++ ⟨#[45, 97, 110, 100, 45]⟩ else s) ++ S) := by
        rw [HS.out, ← hS]
        unfold Hid
        rw [unitN, hp]
      have k0 : (0 : Int) ≤ (k : Int) := by omega
      have k1 : (k : Int) < (n : Int) := by omega
      have hs1 : s.size ≤ 140737488355333000 := by omega
      clear hp hS hs0 HFP HC1 HC2
      by_cases h0 : k = 0
      · subst h0
        simp only [Nat.zero_mul, addr_zero] at a0 a1 a2
        have d1 : ¬ 9223372036854775807 < s.size + S.size := by omega
        have d2 : ¬ maxLen < s.size + S.size := by unfold maxLen; omega
        go_wp2_with (first | (go_at_call 46; (with_reducible refine (C0.out).mono ?_); rintro e w2 ⟨rfl, hb2⟩) | fail)
        go_roundw
        case rel => exact ⟨1, s ++ S, by omega, rfl, rfl, khide HX.out.symm, HB.out.trans (hb2.out.mono HB.out.size)⟩
        case measure => simp [intOf]; omega
      · have e0 : decide ((0 : Int) < (k : Int)) = true := decide_eq_true (by omega)
        have e1 : decide (0 < k) = true := decide_eq_true (by omega)
        have e2 : 0 < k := by omega
        have d0 : ¬ 9223372036854775807 < s.size + 5 := by omega
        have d1 : ¬ 9223372036854775807 < s.size + 5 + S.size := by omega
        replace HX : Hid (unitN ps (k + 1) = s ++ ⟨#[45, 97, 110, 100, 45]⟩ ++ S) := by rw [HX.out, if_pos e2]; rfl
        go_wp2_with (first | (go_at_call 46; (with_reducible refine (C0.out).mono ?_); rintro e w2 ⟨rfl, hb2⟩) | fail)
        go_roundw
        case rel => exact ⟨k + 1, s ++ ⟨#[45, 97, 110, 100, 45]⟩ ++ S, by omega, by go_num, rfl, khide HX.out.symm, HB.out.trans (hb2.out.mono HB.out.size)⟩
        case measure => simp [intOf]; omega
    · obtain rfl : k = n := by omega
      go_wp2
      go_ret
      exact ⟨by rw [show unitS ps = s by rw [HS.out, HN.out]; rfl]; rfl, HB⟩
end Go.Proofs.YthdpojkeceoiiaaGreatDoor
end

section
/- A slice of slices that the call itself builds: one element more behind its last part; what it reads as. No conditions. -/
open Go.RowKit
namespace Go.Proofs.YthdpojkeceoiiaaGreatDoor
section
variable {base : Nat} {tO ti : TypeId} {w w' : World} {css : List (List ByteArray)} {vs : List Value} {g cap : Nat}
theorem Bld.put (h : Bld base tO ti w (.slice (some ⟨g, 0, none⟩) css.length cap) css vs) (hne : tO ≠ ti) {j : Nat} {y : Value} {cs : List ByteArray} (hy : vs[j]? = some y) (hcs : css[j]? = some cs)
    {o : Obj} {v' : Value} {x : ByteArray} (ho : w'.ownsRow base ti 1 v' (cs.length + 1) (cs.map Value.string ++ [.string x])) (hg : (w.alloc o).grownBy w' y.ownBlock)
    (hat : v'.ownBlock = y.ownBlock ∨ v'.ownBlock = some (w.alloc o).heap.size) :
    Bld base tO ti (w'.setCell ⟨g, j, none⟩ v') (.slice (some ⟨g, 0, none⟩) css.length cap) (css.set j (cs ++ [x])) (vs.set j v') := by
  have hl := h.len
  have hyo := h.inner j y cs hy hcs
  have houter : w'.ownsRow base tO 1 (.slice (some ⟨g, 0, none⟩) css.length cap) css.length vs := (h.own.alloc o).kept hg (own_type_ne (h.own.alloc o) (hyo.alloc o) hne)
  have hst := World.ownsRow.stored houter j v'
  have hjv : j < vs.length := by
    rcases Nat.lt_or_ge j vs.length with h1 | h1
    · exact h1
    · rw [List.getElem?_eq_none h1] at hy; cases hy
  have keep : ∀ {z : Value} {n : Nat} {zs : List Value}, w'.ownsRow base ti 1 z n zs → (w'.setCell ⟨g, j, none⟩ v').ownsRow base ti 1 z n zs := fun {z n zs} hz =>
    hz.kept hst.2 (by rcases own_type_ne hz houter (Ne.symm hne) with e | e; (· exact .inl e); (· exact .inr e))
  refine ⟨by rw [List.length_set]; exact hst.1, fun i x' cs' h1 h2 => ?_, fun i k x' y' h1 h2 hik => ?_⟩
  · by_cases hij : i = j
    · subst hij
      rw [List.getElem?_set_self hjv] at h1
      rw [List.getElem?_set_self (by omega)] at h2
      injection h1 with h1
      injection h2 with h2
      subst h1; subst h2
      have := keep ho
      rw [List.length_append, List.map_append]
      exact this
    · rw [List.getElem?_set_ne (Ne.symm hij)] at h1 h2
      have hx := h.inner i x' cs' h1 h2
      exact keep ((hx.alloc o).kept hg (h.apart i j x' y h1 hy hij))
  · have new : ∀ {i : Nat} {x' : Value}, vs[i]? = some x' → x'.ownBlock ≠ some (w.alloc o).heap.size := fun {i x'} hx e => by
      have hi : i < css.length := by
        rcases Nat.lt_or_ge i css.length with h3 | h3
        · exact h3
        · rw [List.getElem?_eq_none (by omega)] at hx; cases hx
      have h3 := (h.inner i x' _ hx (List.getElem?_eq_getElem hi)).lt _ e
      simp at h3
      omega
    by_cases hi : i = j
    · subst hi
      rw [List.getElem?_set_self hjv] at h1
      injection h1 with h1
      subst h1
      rw [List.getElem?_set_ne hik] at h2
      rcases hat with e | e
      · rw [e]; exact h.apart i k y y' hy h2 hik
      · rw [e]; exact .inr (Ne.symm (new h2))
    · rw [List.getElem?_set_ne (Ne.symm hi)] at h1
      by_cases hk : k = j
      · subst hk
        rw [List.getElem?_set_self hjv] at h2
        injection h2 with h2
        subst h2
        rcases hat with e | e
        · rw [e]; exact h.apart i k x' y h1 hy hik
        · rw [e]; exact .inr (new h1)
      · rw [List.getElem?_set_ne (Ne.symm hk)] at h2
        exact h.apart i k x' y' h1 h2 hik
/-- The address and capacity that a slice value bears. -/
def bears : Option Value → Option Addr × Nat
  | some (.slice A _ c) => (A, c)
  | _ => (none, 0)
theorem Bld.rss (h : Bld base tO ti w (.slice (some ⟨g, 0, none⟩) css.length cap) css vs) : RSS w w.heap.size (some ⟨g, 0, none⟩) css := fun hn => by
  have hl := h.len
  refine ⟨_, fun j => bears vs[j]?, rfl, (h.own.lt g rfl).2, fun j cs hcs => ?_⟩
  have hj : j < vs.length := by
    rcases Nat.lt_or_ge j vs.length with h1 | h1
    · exact h1
    · rw [List.getElem?_eq_none (by omega)] at hcs; cases hcs
  have hx := List.getElem?_eq_getElem hj
  have hc := h.own.cells (g := g) rfl j _ hx
  have ho := h.inner j _ cs hx hcs
  show w.cell? _ = some (Value.slice (bears vs[j]?).1 cs.length (bears vs[j]?).2) ∧ RS w w.heap.size (bears vs[j]?).1 cs ∧ ((bears vs[j]?).1 = none → (bears vs[j]?).2 = 0)
  rw [hx]
  have form : ∃ A c, vs[j] = .slice A cs.length c ∧ (A = none → c = 0) := by
    rcases ho.2 with ⟨e, e2⟩ | ⟨g', cap', cur, e, _⟩
    · exact ⟨none, 0, by rw [e, e2], fun _ => rfl⟩
    · exact ⟨_, _, e, fun h => by cases h⟩
  obtain ⟨A, c, e, e3⟩ := form
  rw [e] at hc ho ⊢
  exact ⟨hc, RS.of_own ho, e3⟩
theorem Bld.form {v : Value} (h : Bld base tO ti w v css vs) (hn : 0 < css.length) : ∃ g cap, v = .slice (some ⟨g, 0, none⟩) css.length cap := by
  rcases h.own.2 with ⟨_, e⟩ | ⟨g, cap, cur, e, _⟩
  · omega
  · exact ⟨g, cap, e⟩
theorem Bld.cell {j : Nat} {y : Value} (h : Bld base tO ti w (.slice (some ⟨g, 0, none⟩) css.length cap) css vs) (hy : vs[j]? = some y) : w.cell? ⟨g, j, none⟩ = some y := by
  have hl := h.len
  have hj : j < vs.length := by
    rcases Nat.lt_or_ge j vs.length with h1 | h1
    · exact h1
    · rw [List.getElem?_eq_none h1] at hy; cases hy
  rw [World.ownsRow.cellAt h.own j (by omega)]
  exact hy
/-- One nil slice, made. -/
theorem Bld.start (hb : base ≤ w.heap.size) : Bld base tO ti (w.alloc (.cells #[.slice none 0 0] tO)) (.slice (some ⟨w.heap.size, 0, none⟩) 1 1) [[]] [.slice none 0 0] := by
  refine ⟨World.ownsRow_lit w _ 1 hb (by decide) rfl, fun j x cs h1 h2 => ?_, fun i j x y h1 h2 hij => ?_⟩
  · cases j with
    | zero => simp at h1 h2; subst h1; subst h2; exact World.ownsRow_nil _ _ _ _
    | succ j => simp at h1
  · cases i with
    | zero => simp at h1; subst h1; exact .inl rfl
    | succ i => simp at h1
end
theorem set_last {a c : ByteArray} {css : List (List ByteArray)} {j : Nat} {cs : List ByteArray} (hc : c ≠ a) (hj : css.length = j + 1) (hcs : css[j]? = some cs) : css.set j (cs ++ [c]) = cutMore a c css := by
  unfold cutMore
  rw [if_neg hc]
  have hl : css.getLastD [] = cs := by
    rw [List.getLastD_eq_getLast?, List.getLast?_eq_getElem?, show css.length - 1 = j by omega, hcs]; rfl
  rw [hl]
  obtain ⟨pre, hp⟩ : ∃ pre, css = pre ++ [cs] := by
    refine ⟨css.take j, ?_⟩
    have hlt : j < css.length := by omega
    rw [List.getElem?_eq_getElem hlt] at hcs
    injection hcs with hcs
    rw [← hcs, ← List.take_succ_eq_append_getElem hlt, List.take_of_length_le (by omega)]
  subst hp
  have hpl : pre.length = j := by simp at hj; exact hj
  subst hpl
  rw [List.set_append, if_neg (by omega), Nat.sub_self, List.dropLast_concat]
  rfl
theorem cut_step {a c : ByteArray} {xs : List ByteArray} {k : Nat} (h : xs[k]? = some c) : cutBy a (xs.take (k + 1)) = cutMore a c (cutBy a (xs.take k)) := by
  rw [List.take_add_one, h]
  exact cutBy_snoc _ _
theorem own_form {w : World} {base : Nat} {e : TypeId} {v : Value} {n : Nat} {xs : List Value} (h : w.ownsRow base e 1 v n xs) (hn : 0 < n) : ∃ g cap, v = .slice (some ⟨g, 0, none⟩) n cap := by
  rcases h.2 with ⟨_, e⟩ | ⟨g, cap, cur, e, _⟩
  · omega
  · exact ⟨g, cap, e⟩
theorem arm_facts {w w1 : World} {base g m cap l : Nat} {tO ti : TypeId} {vs ys zs : List Value} {y v1 : Value} {o : Obj} (hw : Hid (w.ownsRow base tO 1 (.slice (some ⟨g, 0, none⟩) (m + 1) cap) (m + 1) vs)) (hoy : Hid (w.ownsRow base ti 1 y l ys)) (hne : tO ≠ ti)
    (hy : Hid (vs[m]? = some y)) (ho : w1.ownsRow base ti 1 v1 (l + 1) zs) (hg : (w.alloc o).grownBy w1 y.ownBlock) :
    (∃ g1 cap1, v1 = .slice (some ⟨g1, 0, none⟩) (l + 1) cap1) ∧ w1.cell? ⟨g, m, none⟩ = some y ∧ w1.frozen? ⟨g, m, none⟩ = false := by
  have h2 := (hw.out.alloc o).kept hg (own_type_ne (hw.out.alloc o) (hoy.out.alloc o) hne)
  refine ⟨own_form ho (by omega), ?_, World.ownsRow.frozenAt h2 m⟩
  rw [World.ownsRow.cellAt h2 m (by omega)]
  exact hy.out
theorem ymem_le_sum {x : Nat} {l : List Nat} (h : x ∈ l) : x ≤ l.sum := by
  induction l with
  | nil => simp at h
  | cons y l ih =>
    rw [List.sum_cons]
    rcases List.mem_cons.1 h with rfl | h
    · omega
    · have := ih h; omega
theorem cutBy_piece {a : ByteArray} {l p : List ByteArray} (h : p ∈ cutBy a l) : p.length ≤ l.length := by
  have h1 := cutBy_total (a := a) l
  have h2 := ymem_le_sum (List.mem_map_of_mem (f := List.length) h)
  omega
end Go.Proofs.YthdpojkeceoiiaaGreatDoor
end
