/- Several texts in one, each with its own sentence and conditions. -/
import Derived.Test.YthdpojkeceoiiaaGreatDoorGOkc2
import Derived.Test.YthdpojkeceoiiaaGreatDoorGOkc19
import Derived.Test.YthdpojkeceoiiaaGreatDoorGOkc24
import Derived.BigRegion
import Derived.Test.YthdpojkeceoiiaaGreatDoorHi
section
/- The document's own Split. No conditions. -/
open Go.RowKit
set_option maxRecDepth 100000
namespace Go.Proofs.YthdpojkeceoiiaaGreatDoor
theorem map_data_inj {xs ys : List ByteArray} (h : xs.map (·.data.toList) = ys.map (·.data.toList)) : xs = ys := by
  induction xs generalizing ys with
  | nil => cases ys with
    | nil => rfl
    | cons y ys => simp at h
  | cons x xs ih => cases ys with
    | nil => simp at h
    | cons y ys =>
      simp only [List.map_cons, List.cons.injEq] at h
      rw [ih h.2, ByteArray.ext (Array.ext' h.1)]
/-- The texts of lists of bytes. -/
def asS (r : List (List UInt8)) : List ByteArray := r.map fun l => ⟨l.toArray⟩
theorem asS_data (r : List (List UInt8)) : (asS r).map (·.data.toList) = r := by
  unfold asS
  rw [List.map_map]
  exact List.map_id r
theorem asS_len (r : List (List UInt8)) : (asS r).length = r.length := List.length_map _
theorem parts_take {s : ByteArray} {k : Nat} (h : k < s.size) : parts (s.data.toList.take (k + 1)) = cutMore 45 s[k] (parts (s.data.toList.take k)) := by
  have e : s.data.toList.take (k + 1) = s.data.toList.take k ++ [s[k]] := by
    rw [List.take_succ_eq_append_getElem (by simpa using h)]; rfl
  rw [e]
  exact cutBy_snoc _ _
theorem cutMore_hit {r : List (List UInt8)} : asS (cutMore 45 45 r) = asS r ++ [ByteArray.empty] := by
  unfold cutMore asS
  rw [if_pos rfl, List.map_append]; rfl
theorem cutMore_miss {c : UInt8} {r : List (List UInt8)} {m : Nat} {p : ByteArray} (hc : c ≠ 45) (hr : r.length = m + 1) (hp : (asS r)[m]? = some p) : asS (cutMore 45 c r) = (asS r).set m (p ++ ⟨#[c]⟩) := by
  unfold cutMore
  rw [if_neg hc]
  obtain ⟨pre, l, e⟩ : ∃ pre l, r = pre ++ [l] := ⟨r.dropLast, r.getLast (by intro e; rw [e] at hr; simp at hr), (List.dropLast_concat_getLast _).symm⟩
  subst e
  have hpl : pre.length = m := by simpa using hr
  subst hpl
  have hp2 : p = ⟨l.toArray⟩ := by
    unfold asS at hp
    rw [List.map_append, List.getElem?_append_right (by simp)] at hp
    simp at hp
    exact hp.symm
  subst hp2
  rw [List.dropLast_concat]
  unfold asS
  rw [List.map_append, List.map_append, List.set_append, if_neg (by simp), List.getLastD_concat]
  simp only [List.length_map, Nat.sub_self, List.map_cons, List.map_nil, List.set_cons_zero]
  rw [show (⟨(l ++ [c]).toArray⟩ : ByteArray) = ⟨l.toArray⟩ ++ ⟨#[c]⟩ from ByteArray.ext (by simp)]
theorem plain_add' (g k : Nat) : (⟨g, 0, none⟩ : Addr).add k = ⟨g, k, none⟩ := by unfold Addr.add; split <;> simp_all
theorem extract_one {s : ByteArray} {k : Nat} (h : k < s.size) : s.extract k (k + 1) = ⟨#[s[k]]⟩ := by
  refine ByteArray.ext (Array.ext' ?_)
  have hk : k < s.data.toList.length := by simpa using h
  have e : s.data.toList[k] = s[k] := rfl
  rw [Lib.extract_data, List.drop_eq_getElem_cons hk, show k + 1 - k = 1 by omega, e]
  rfl
theorem parts_piece {l : List UInt8} {p : List UInt8} (h : p ∈ parts l) : p.length ≤ l.length := by
  have h1 := cutBy_total (a := (45 : UInt8)) l
  have h2 := ymem_le_sum (List.mem_map_of_mem (f := List.length) h)
  unfold parts at *
  omega
def SplitA (w : World) (s : ByteArray) (e : Ending) (w' : World) : Prop := (if goodAll (pcs s) then SplitOk w (pcs s) else SplitNo w 2) e w'
set_option maxHeartbeats 2000000 in
theorem rsplit_any {s : ByteArray} (hs : s.size ≤ 256) (w : World) : Calls Tryz.prog 41 #[.string s] w (SplitA w s) := by
  have d : decide ((256 : Int) < (s.size : Int)) = false := decide_eq_false (by omega)
  obtain ⟨j0, hj0, hy0, hy1, hy2⟩ := info_parts Tryz.infoStr
  have J0 := yhide hj0; have Y0 := yhide hy0; have Y1 := yhide hy1; have Y2 := yhide hy2
  clear hj0 hy0 hy1 hy2
  go_enter Tryz.func41, Tryz.ntmps41
  go_wp2
  go_loopw [4, 5] (fun lv iv wr => ∃ (k m g cap : Nat) (r : List (List UInt8)), k ≤ s.size ∧ m ≤ k ∧ iv = .int .i64 (k : Int) ∧ lv = .slice (some ⟨g, 0, none⟩) (m + 1) cap ∧ Hid (r.length = m + 1) ∧ Hid (r = parts (s.data.toList.take k)) ∧
      Hid (wr.ownsRow w.heap.size 9 1 (.slice (some ⟨g, 0, none⟩) (m + 1) cap) (m + 1) ((asS r).map Value.string)) ∧ Hid (Below w.heap.size w wr)) (fun _ iv _ => s.size - (intOf iv).toNat)
  case atStart => exact ⟨0, 0, w.heap.size, 1, [[]], Nat.zero_le _, Nat.le_refl _, rfl, rfl, rfl, rfl, World.ownsRow_lit w _ 1 (Nat.le_refl _) (by decide) rfl, (Below.refl _ _).alloc (Nat.le_refl _) _⟩
  case round =>
    obtain ⟨k, m, g, cap, r, hk, hmk, rfl, rfl, hrl, hr, hown, hbk⟩ := hrel
    by_cases hlt : k < s.size
    · have HBW := yhide hbk.out.size
      have HP := yhide (parts_take hlt)
      by_cases hc : s[k] = 45
      · have hx1 : ((s[k].toNat : Int) == 45) = true := by rw [hc]; rfl
        have HC := yhide hc
        clear hc
        go_wp2_with (first | (at_builtin; go_must (refine wpList_append_own_at _ rfl (.tmp 21) (.tmp 22) 23 rfl w.heap.size 9 j0 (.string ByteArray.empty) 1 16 Tryz.underlying23 J0.out Y0.out Y1.out Y2.out rfl (by decide) (.slice (some ⟨g, 0, none⟩) (m + 1) cap) _ _ rfl (hown.out.alloc _) ⟨wr.heap.size, 0, none⟩ 1 1 [.string ByteArray.empty] rfl rfl (cell_one_new _ _ _) (by intro u hu; simp at hu; subst hu; rfl) (by simp only [maxLen]; omega) (by omega) (Nat.le_trans HBW.out (by simp)) ?_; intro v1 w1 ho1 hg1 hn1 ha1; clear hn1 ha1; obtain ⟨g1, cap1, rfl⟩ := own_form ho1 (by omega); have HO1 := yhide ho1; have HB1 : Hid (Below w.heap.size w w1) := (hbk.out.alloc HBW.out _).grown hg1 (Nat.le_trans HBW.out (by simp)) (fun g' e => (hown.out.lt g' e).1); clear ho1 hg1)) | fail)
        go_roundw
        case rel =>
          refine ⟨k + 1, m + 1, g1, cap1, cutMore 45 45 r, by omega, by omega, by go_num, rfl, ?_, ?_, ?_, HB1⟩
          · unfold Hid cutMore
            rw [if_pos rfl, List.length_append, hrl.out]; rfl
          · unfold Hid
            rw [HP.out, HC.out, ← hr.out]
          · unfold Hid
            rw [cutMore_hit, List.map_append]
            exact HO1.out
        case measure => simp [intOf]; omega
      · have hx1 : ((s[k].toNat : Int) == 45) = false := by
          rw [beq_eq_false_iff_ne]
          intro e
          exact hc (UInt8.toNat_inj.1 (by simpa using (show s[k].toNat = 45 by omega)))
        have hm2 : m < (asS r).length := by rw [asS_len, hrl.out]; omega
        obtain ⟨p, hpe⟩ : ∃ p, (asS r)[m]? = some p := ⟨_, List.getElem?_eq_getElem hm2⟩
        have HS := yhide (cutMore_miss (c := s[k]) hc hrl.out hpe)
        have hcp : wr.cell? ⟨g, m, none⟩ = some (.string p) := by
          rw [World.ownsRow.cellAt hown.out m (by omega), List.getElem?_map, hpe]; rfl
        have hfz : wr.frozen? ⟨g, m, none⟩ = false := World.ownsRow.frozenAt hown.out m
        have HEX := yhide (extract_one hlt)
        have HST := yhide (World.ownsRow.stored hown.out m (.string (p ++ ⟨#[s[k]]⟩)))
        have hps : p.size ≤ 256 := by
          have h1 : p.data.toList ∈ parts (s.data.toList.take k) := by
            rw [← hr.out, ← asS_data r]
            exact List.mem_map_of_mem (List.mem_of_getElem? hpe)
          have h2 := parts_piece h1
          have h3 : (s.data.toList.take k).length ≤ k := List.length_take_le _ _
          rw [Lib.size_eq]; omega
        have q1 : ¬ 9223372036854775807 < p.size + 1 := by omega
        have q2 : p.size + 1 ≤ 9223372036854775807 := by omega
        clear hc hm2 hpe
        go_wp2
        go_region
        go_wp2
        go_roundw
        case rel =>
          refine ⟨k + 1, m, g, cap, cutMore 45 s[k] r, by omega, by omega, by go_num, rfl, ?_, ?_, ?_, ?_⟩
          · unfold Hid
            have h1 := congrArg List.length HS.out
            rw [asS_len, List.length_set, asS_len, hrl.out] at h1
            exact h1
          · unfold Hid
            rw [HP.out, ← hr.out]
          · unfold Hid
            rw [HS.out, List.map_set, HEX.out]
            exact HST.out.1
          · rw [HEX.out]
            exact (hbk.out.setCell (p := ⟨g, m, none⟩) (hown.out.lt g rfl).1 _).drew
        case measure => simp [intOf]; omega
    · obtain rfl : k = s.size := by omega
      have e1 : pcs s = asS r := map_data_inj (by
        rw [asS_data, pcs_parts, hr.out, List.take_of_length_le (by rw [Lib.size_eq]; exact Nat.le_refl _)])
      have hm256 : m ≤ 256 := by omega
      obtain ⟨xs, hxs⟩ : ∃ xs, xs = asS r := ⟨_, rfl⟩
      have HN : Hid (m + 1 = xs.length) := by rw [hxs, asS_len, hrl.out]; rfl
      have hss : Ss wr (some ⟨g, 0, none⟩) xs := by
        have h1 := hown.out
        rw [← hxs] at h1
        have h2 : wr.ownsRow w.heap.size 9 1 (.slice (some ⟨g, 0, none⟩) xs.length cap) xs.length (xs.map Value.string) := by rw [← HN.out]; exact h1
        exact RS.of_own h2
      have HS2 : Hid (goodAll xs = true → SplitA w s (.returned (.tuple #[.slice (some ⟨g, 0, none⟩) (m + 1) cap, .int .i64 0])) wr) := fun h2 => by
        unfold SplitA
        rw [e1, ← hxs, if_pos h2, HN.out]
        refine ⟨_, cap, rfl, ?_, hss, hbk⟩
        rcases hown.out.2 with ⟨h0, _⟩ | ⟨g', cap', cur, h0, _, _, h3, _⟩
        · cases h0
        · injection h0 with _ _ h5
          rw [← HN.out, h5]; exact h3
      have HB2 : Hid (goodAll xs = false → SplitA w s (.returned (.tuple #[.slice none 0 0, .int .i64 2])) wr) := fun h2 => by
        unfold SplitA
        rw [e1, ← hxs, if_neg (by rw [h2]; simp)]; exact ⟨rfl, hbk⟩
      have HSZ : Hid (∀ x ∈ xs, x.size ≤ 1000000) := fun x hx => by
        have h1 : x.data.toList ∈ parts s.data.toList := by
          rw [← pcs_parts, e1, ← hxs]
          exact List.mem_map_of_mem hx
        have h2 := parts_piece h1
        rw [Lib.size_eq] at hs ⊢; omega
      clear hxs e1 hown hr hrl
      go_wp2
      go_loop [6] (fun iv => ∃ k : Nat, k ≤ m + 1 ∧ iv = .int .i64 (k : Int) ∧ Hid (goodAll (xs.take k) = true)) (fun iv => m + 1 - (intOf iv).toNat)
      case atStart => exact ⟨0, Nat.zero_le _, rfl, rfl⟩
      case round =>
        obtain ⟨i, hi, rfl, hall⟩ := hrel
        by_cases hlt2 : i < m + 1
        · have hx : i < xs.length := by rw [← HN.out]; exact hlt2
          obtain ⟨ad2, e2, hb, hcell⟩ := hss.out.at_ hx
          obtain rfl : (⟨g, 0, none⟩ : Addr) = ad2 := by injection e2
          obtain ⟨x, hxe⟩ : ∃ x, x = xs[i] := ⟨_, rfl⟩
          obtain ⟨b, hbe⟩ : ∃ b, b = goodW x.data.toList := ⟨_, rfl⟩
          have HG1 : Hid (goodAll (xs.take (i + 1)) = (goodAll (xs.take i) && b)) := by rw [hbe, hxe]; exact goodAll_take hx
          have HG2 : Hid (b = false → goodAll xs = false) := fun h => goodAll_false hx (by rw [← hxe, ← hbe, h])
          rw [← hxe, plain_add'] at hcell
          have CG : Hid (∀ W, Calls Tryz.prog 68 #[.string x] W fun e w' => e = .returned (.bool b) ∧ W = w') := fun W => by rw [hbe]; exact rgood_any (Nat.le_trans (HSZ.out x (by rw [hxe]; exact List.getElem_mem hx)) (by decide)) W
          clear hxe hbe hx e2
          cases b
          · go_wp2_with (first | (go_at_call 68; (with_reducible refine (CG.out _).mono ?_); rintro e w2 ⟨rfl, rfl⟩) | fail)
            go_ret2
            exact HB2.out (HG2.out (by first | rfl | trivial))
          · go_wp2_with (first | (go_at_call 68; (with_reducible refine (CG.out _).mono ?_); rintro e w2 ⟨rfl, rfl⟩) | fail)
            go_round
            case rel => exact ⟨i + 1, by omega, by go_num, by unfold Hid; rw [HG1.out, hall.out]; rfl⟩
            case measure => simp [intOf]; omega
        · obtain rfl : i = m + 1 := by omega
          have HG : Hid (goodAll xs = true) := by
            have := hall.out
            rwa [List.take_of_length_le (by rw [← HN.out]; exact Nat.le_refl _)] at this
          go_wp2
          go_ret2
          exact HS2.out HG.out
set_option maxHeartbeats 1000000 in
theorem rsplit_long {s : ByteArray} (hs : 256 < s.size) (w : World) : Calls Tryz.prog 41 #[.string s] w (SplitNo w 11) := by
  have d : decide ((256 : Int) < (s.size : Int)) = true := decide_eq_true (by omega)
  clear hs
  go_enter Tryz.func41, Tryz.ntmps41
  go_wp2
  go_ret2
  exact ⟨rfl, Below.refl _ _⟩
end Go.Proofs.YthdpojkeceoiiaaGreatDoor
end

section
/- The document's own part of any words. Conditions: texts and lists that fit. -/
open Go.RowKit
set_option maxRecDepth 100000
namespace Go.Proofs.YthdpojkeceoiiaaGreatDoor
section
variable {A B D : Option Addr} {n c m d j g : Nat} {names ps l : List ByteArray} {w : World}
theorem rAtoms_of (h : Ss w A names) (hn : n = names.length) (hl : n ≤ 1000000) (h' : Ss w B ps) (hm : m = ps.length) (hl' : m ≤ 1000000) (hjl : l.length ≤ 1000000) (hu : ∀ x ∈ l, x.size ≤ 1000) (hps : ∀ x ∈ ps, x.size ≤ 2000000) : RAtoms w A B n c m d l (fun W => AtomsR W (atomsL names ps l)) := fun W D j g hb hs hj hg =>
  ratoms_any (h.up hb.hid) hn hl (h'.up hb.hid) hm hl' hs hj hg (by omega) (fun x hx => by have := hu x hx; omega) hps rfl
theorem rAtoms_b {r : Option (List AL)} (h : RAtoms w A B n c m d l (fun W => AtomsR W r)) : RAtoms w A B n c m d l (fun W => AtomsB W r.isSome) := fun W D j g hb hs hj hg => (h W D j g hb hs hj hg).mono fun _ _ h => atomsB_of h
theorem rpart_any' (h : Ss w A names) (hn : n = names.length) (hl : n ≤ 1000000) (h' : Ss w B ps) (hm : m = ps.length) (hl' : m ≤ 1000000) (h2 : Ss w D l) (hj : j = l.length) (hjl : j ≤ 1000000) (hu : ∀ x ∈ l, x.size ≤ 1000) (hps : ∀ x ∈ ps, x.size ≤ 2000000) :
    Calls Tryz.prog 43 #[.agg #[.slice A n c, .slice B m d], .slice D j g] w (PartR w (partD names ps l)) := by
  have hmem : ∀ p ∈ cutBy perB l, ∀ x ∈ p, x.size ≤ 1000 := fun p hp x hx => hu x (cutBy_mem l p hp x hx)
  have hlen : ∀ p ∈ cutBy perB l, p.length ≤ 1000000 := fun p hp => by have := cutBy_piece hp; omega
  match hc : cutBy perB l with
  | [] => exact absurd hc (cutBy_ne l)
  | [a] =>
    rw [hc] at hmem hlen
    have hal := hlen a (by simp)
    have hau : ∀ x ∈ a, x.size ≤ 2000000 := fun x hx => by have := hmem a (by simp) x hx; omega
    cases hr : atomsL names ps a with
    | none => exact part_one_no h hn hl h' hm hl' h2 hj hjl hc hal hau hps hr
    | some r =>
      by_cases h0 : r.length = 0
      · exact part_one_zero h hn hl h' hm hl' h2 hj hjl hc hal hau hps hr h0
      · by_cases h8 : r.length ≤ 8
        · exact part_one_yes h hn hl h' hm hl' h2 hj hjl hc hal hau hps hr ⟨by omega, h8⟩
        · exact part_one_long h hn hl h' hm hl' h2 hj hjl hc hal hau hps hr (by omega)
  | [a, b] =>
    rw [hc] at hmem hlen
    have ha := hmem a (by simp)
    have hal := hlen a (by simp)
    have hb := hmem b (by simp)
    have hbl := hlen b (by simp)
    have hbu : ∀ x ∈ b, x.size ≤ 1000000 := fun x hx => by have := hb x hx; omega
    have C1 := rAtoms_of (n := n) (c := c) (m := m) (d := d) h hn hl h' hm hl' hal ha hps
    have e : partD names ps l = partC names ps [a, b] := by unfold partD; rw [hc]
    rw [e, partC_two]
    by_cases h0 : b = []
    · rw [if_pos h0]
      exact part_two_empty (b := (atomsL names ps a).isSome) h0 h2 hj hjl hc hbu (rAtoms_b C1)
    · rw [if_neg h0]
      have h7 : (headD b).2.length ≤ b.length ∧ ∀ x ∈ (headD b).2, x ∈ b := by
        unfold headD
        split
        · exact ⟨Nat.le_refl _, fun x hx => hx⟩
        · split
          · exact ⟨by simp, fun x hx => List.mem_cons_of_mem _ hx⟩
          · exact ⟨Nat.le_refl _, fun x hx => hx⟩
      have C2 := rAtoms_of (n := n) (c := c) (m := m) (d := d) h hn hl h' hm hl' (l := (headD b).2) (by omega) (fun x hx => hb x (h7.2 x hx)) hps
      cases hr : atomsL names ps a with
      | none =>
        rw [hr] at C1
        exact part_two_f0 (b := (atomsL names ps (headD b).2).isSome) h0 h2 hj hjl hc hbu (rAtoms_b C1) (rAtoms_b C2)
      | some r =>
        have h4 := atomsL_le _ (Nat.le_refl _) hr
        cases hs : atomsL names ps (headD b).2 with
        | none =>
          rw [hr] at C1
          rw [hs] at C2
          exact part_two_f1 h0 h2 hj hjl hc hbu (rAtoms_b C1) (rAtoms_b C2)
        | some s =>
          have h6 := atomsL_le _ (Nat.le_refl _) hs
          rw [hr] at C1
          rw [hs] at C2
          show Calls _ _ _ _ (PartR w (if r.length + s.length ≤ 8 then some (r, s, (headD b).1) else none))
          by_cases h5 : r.length + s.length ≤ 8
          · rw [if_pos h5]
            exact part_two_ok h0 (by omega) (by omega) h5 h2 hj hjl hc hbu C1 C2
          · rw [if_neg h5]
            exact part_two_long h0 (by omega) (by omega) (by omega) h2 hj hjl hc hbu C1 C2
  | a :: b :: x :: css => exact part_many h2 hj hjl (by rw [hc]; simp)
end
end Go.Proofs.YthdpojkeceoiiaaGreatDoor
end
