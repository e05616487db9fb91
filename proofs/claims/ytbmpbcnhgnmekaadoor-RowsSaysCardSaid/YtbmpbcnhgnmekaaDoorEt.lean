/- cubitref6.Rows of any text of at most 2000 bytes. No conditions but that. -/
import Derived.Test.YtbmpbcnhgnmekaaDoorEs
import Derived.WalkSmall
open Go.RowKit
set_option maxRecDepth 100000
namespace Go.Proofs.YtbmpbcnhgnmekaaDoor
/-- A slice of rows that a call builds. -/
structure RC (base : Nat) (w : World) (v : Value) (rs : List TRow) (vs : List Value) : Prop where
  len : vs.length = rs.length
  own : w.ownsRow base 31 2 v rs.length (flatR rs vs)
  inner : ∀ (j : Nat) (x : Value) (r : TRow), vs[j]? = some x → rs[j]? = some r → (∃ A c, x = .slice A r.2.length c ∧ (A = none → c = 0)) ∧ w.ownsRow base 9 1 x r.2.length (r.2.map Value.string)
section
variable {base : Nat} {w w' : World} {v v' x : Value} {rs : List TRow} {vs : List Value} {r : TRow}
theorem RC.nil : RC base w (.slice none 0 0) [] [] := ⟨rfl, World.ownsRow_nil _ _ _ _, fun j x r h => by simp at h⟩
theorem RC.kept (h : RC base w v rs vs) {row : Option Nat} (hg : w.grownBy w' row) (hv : v.ownBlock = none ∨ v.ownBlock ≠ row) (hx : ∀ x ∈ vs, x.ownBlock = none ∨ x.ownBlock ≠ row) : RC base w' v rs vs :=
  ⟨h.len, h.own.kept hg hv, fun j x r h1 h2 => ⟨(h.inner j x r h1 h2).1, (h.inner j x r h1 h2).2.kept hg (hx x (List.mem_of_getElem? h1))⟩⟩
theorem RC.below (h : RC base w v rs vs) (hb : Below w.heap.size w w') : RC base w' v rs vs :=
  h.kept (grown_below (B := 0) hb) (by cases v.ownBlock <;> simp) (fun x _ => by cases x.ownBlock <;> simp)
theorem RC.alloc (h : RC base w v rs vs) (o : Obj) : RC base (w.alloc o) v rs vs := h.below ((Below.refl _ _).alloc (Nat.le_refl _) o)
/-- One row more: what the append of it leaves. -/
theorem RC.more (h : RC base w v rs vs) (hx : (∃ A c, x = .slice A r.2.length c ∧ (A = none → c = 0)) ∧ w.ownsRow base 9 1 x r.2.length (r.2.map Value.string))
    (ho : w'.ownsRow base 31 2 v' (rs.length + 1) (flatR rs vs ++ [.int .i64 (r.1 : Int), x])) (hg : w.grownBy w' v.ownBlock) : RC base w' v' (rs ++ [r]) (vs ++ [x]) := by
  refine ⟨by rw [List.length_append, List.length_append, h.len]; rfl, by rw [flatR_snoc h.len]; simpa using ho, fun j y r' h1 h2 => ?_⟩
  have hl := h.len
  rcases Nat.lt_or_ge j vs.length with hj | hj
  · rw [List.getElem?_append_left hj] at h1
    rw [List.getElem?_append_left (by omega)] at h2
    have h3 := h.inner j y r' h1 h2
    exact ⟨h3.1, h3.2.kept hg (own_ne h3.2 h.own (by decide))⟩
  · rw [List.getElem?_append_right hj] at h1
    rw [List.getElem?_append_right (by omega)] at h2
    rw [show j - rs.length = j - vs.length by omega] at h2
    cases hk : j - vs.length with
    | zero =>
      rw [hk] at h1 h2
      simp at h1 h2
      subst h1; subst h2
      exact ⟨hx.1, hx.2.kept hg (own_ne hx.2 h.own (by decide))⟩
    | succ k => rw [hk] at h1; simp at h1
end
section
variable {W W' w w' : World} {B B' : Nat} {A : Option Addr} {rs : List TRow} {vs : List Value} {base c n : Nat}
theorem RC.reads (h : RC base W (.slice A rs.length c) rs vs) : Rs W A rs := fun hn => by
  rcases h.own.2 with ⟨h0, h1⟩ | ⟨g, cap, cur, h0, h1, hg, _⟩
  · omega
  · injection h0 with h0 _ hcap
    subst h0
    refine ⟨g, vs, rfl, (Array.getElem?_eq_some_iff.1 hg).1, h.len, fun j r v h2 h3 => ?_⟩
    have hj : j < rs.length := (List.getElem?_eq_some_iff.1 h2).1
    obtain ⟨h4, h5⟩ := flatR_get h.len h2 h3
    obtain ⟨⟨A', c', e, hc'⟩, h7⟩ := h.inner j v r h3 h2
    refine ⟨(World.ownsRow.cellAt h.own (j * 2) (by omega)).trans h4, (World.ownsRow.cellAt h.own (j * 2 + 1) (by omega)).trans h5, A', c', e, hc', ?_, ?_⟩
    · subst e; exact own_cap h7
    · subst e; exact RS.of_own h7
end
theorem ref_yes {W w' : World} {base : Nat} {A : Option Addr} {c : Nat} {rs : List TRow} {vs : List Value} (h : RC base w' (.slice A rs.length c) rs vs) (hb : Hid (Below W.heap.size W w')) : ParseR W (rs, 0, 0) (.returned (.tuple #[.slice A rs.length c, .int .i64 0, .int .i64 0])) w' := by
  refine ⟨A, c, rfl, fun hA => ?_, h.reads, hb⟩
  subst hA
  rcases h.own.2 with ⟨h0, _⟩ | ⟨g, cap, cur, h0, _⟩
  · injection h0
  · injection h0 with h1; cases h1
theorem infoRowC : (Tryd.prog.info? 31).map (fun i => (i.zero, i.size, i.bytes)) = some (some (.agg #[.int .i64 0, .slice none 0 0]), 2, 32) := by kernel_rfl
section
variable {s : ByteArray} {f k : Nat}
theorem fk_more (h : k < s.size) (hf : f ≤ k) (h10 : s[k] ≠ 10) (hn : ¬ (10 : UInt8) ∈ (s.data.toList.drop f).take (k - f)) : ¬ (10 : UInt8) ∈ (s.data.toList.drop f).take (k + 1 - f) := by
  have e : (s.data.toList.drop f).take (k + 1 - f) = (s.data.toList.drop f).take (k - f) ++ [s[k]] := by
    rw [show k + 1 - f = k - f + 1 by omega, List.take_add_one, List.getElem?_drop, show f + (k - f) = k by omega, List.getElem?_eq_getElem (by simpa using h)]; rfl
  rw [e]
  simp only [List.mem_append, List.mem_singleton, not_or]
  exact ⟨hn, fun e => h10 e.symm⟩
theorem fk_line (h : k < s.size) (hf : f ≤ k) (h10 : s[k] = 10) (hn : ¬ (10 : UInt8) ∈ (s.data.toList.drop f).take (k - f)) : piecesL 10 (s.data.toList.drop f) = s.extract f k :: piecesL 10 (s.data.toList.drop (k + 1)) := by
  have e : s.data.toList.drop f = (s.data.toList.drop f).take (k - f) ++ 10 :: s.data.toList.drop (k + 1) := by
    conv => lhs; rw [← List.take_append_drop (k - f) (s.data.toList.drop f), List.drop_drop, show f + (k - f) = k by omega, drop_at h, h10]
  have e2 : s.extract f k = ⟨((s.data.toList.drop f).take (k - f)).toArray⟩ := by
    apply ByteArray.ext; apply Array.toList_inj.1; rw [Lib.extract_data]
  unfold piecesL
  rw [e2]
  conv => lhs; rw [e]
  rw [cutBy_lead hn]; rfl
theorem fk_last (hf : f ≤ s.size) (hn : ¬ (10 : UInt8) ∈ (s.data.toList.drop f).take (s.size - f)) : piecesL 10 (s.data.toList.drop f) = [s.extract f s.size] := by
  have e0 : (s.data.toList.drop f).take (s.size - f) = s.data.toList.drop f := List.take_of_length_le (by rw [List.length_drop, Lib.size_eq]; exact Nat.le_refl _)
  rw [e0] at hn
  have e2 : s.extract f s.size = ⟨(s.data.toList.drop f).toArray⟩ := by
    apply ByteArray.ext; apply Array.toList_inj.1; rw [Lib.extract_data, e0]
  unfold piecesL
  rw [cutBy_plain hn, e2]; rfl
end
set_option maxHeartbeats 16000000 in
theorem ref_any {s : ByteArray} {res : List TRow × Nat × Nat} (hs : s.size ≤ 2000) (hr : tableOf s = res) (W : World) : Calls Tryd.prog 11 #[.string s] W (ParseR W res) := by
  have d : decide ((65536 : Int) < (s.size : Int)) = false := decide_eq_false (by omega)
  have HR : Hid (res = comb [] (rowsOf 0 0 (piecesL 10 s.data.toList))) := by rw [comb_start, ← hr]; unfold tableOf; rw [if_neg (by omega)]; rfl
  obtain ⟨i0, hi, hz0, hz1, hz2⟩ := info_parts infoRowC
  have J0 := ehide hi; have Y0 := ehide hz0; have Y1 := ehide hz1; have Y2 := ehide hz2
  clear hr hi hz0 hz1 hz2
  go_enter Tryd.func11, Tryd.ntmps11
  go_wp2
  go_loopw [5, 6, 7, 8] (fun lv nv fv iv wr => ∃ (k f L : Nat) (acc : List TRow) (vs : List Value) (A : Option Addr) (cp : Nat), k ≤ s.size + 1 ∧ f ≤ k ∧ L ≤ k ∧ iv = .int .i64 (k : Int) ∧ nv = .int .i64 (L : Int) ∧ fv = .int .i64 (f : Int) ∧ lv = .slice A acc.length cp ∧ acc.length ≤ 2000 ∧
    Hid (k ≤ s.size → (¬ (10 : UInt8) ∈ (s.data.toList.drop f).take (k - f)) ∧ res = comb acc (rowsOf L acc.length (piecesL 10 (s.data.toList.drop f)))) ∧ Hid (k = s.size + 1 → res = (acc, 0, 0)) ∧
    Hid (RC W.heap.size wr (.slice A acc.length cp) acc vs) ∧ Hid (Below W.heap.size W wr)) (fun _ _ _ iv _ => s.size + 1 - (intOf iv).toNat)
  case atStart => exact ⟨0, 0, 0, [], [], none, 0, Nat.zero_le _, Nat.le_refl _, Nat.le_refl _, rfl, rfl, rfl, rfl, by decide, fun _ => ⟨by simp, HR.out⟩, fun h => by omega, RC.nil, Below.refl _ _⟩
  case round =>
    obtain ⟨k, f, L, acc, vs, A, cp, hk, hf, hL, rfl, rfl, rfl, rfl, hacc, hres, hend, hrc, HB⟩ := hrel
    have w1' : IntKind.i64.wrap ((k : Int) + 1) = (k : Int) + 1 := IntWalk.i64_in _ (by omega)
    have w2' : IntKind.i64.wrap ((L : Int) + 1) = (L : Int) + 1 := IntWalk.i64_in _ (by omega)
    by_cases hlt : k < s.size
    · have dle : decide (k ≤ s.size) = true := decide_eq_true (by omega)
      have dle2 : decide ((k : Int) ≤ (s.size : Int)) = true := decide_eq_true (by omega)
      have dks : ((k : Int) == (s.size : Int)) = false := by rw [beq_eq_false_iff_ne]; omega
      obtain ⟨hn10, hr0⟩ := hres.out (by omega)
      by_cases h10 : s[k] = 10
      · have hc := (byte_eq (n := 10) (by decide)).1 h10
        have d0 : ((s[k].toNat : Int) != 10) = false := by rw [hc]; rfl
        have d1 : ((s[k].toNat : Int) == 10) = true := by rw [hc]; rfl
        have cF : (f : Int) ≤ (k : Int) := by omega
        have cK : (k : Int) ≤ (s.size : Int) := by omega
        obtain ⟨rest, hrest⟩ : ∃ r, piecesL 10 (s.data.toList.drop (k + 1)) = r := ⟨_, rfl⟩
        have HREST0 : res = comb acc (rowsOf L acc.length (s.extract f k :: rest)) := by rw [hr0, fk_line hlt hf h10 hn10, hrest]
        have HRA : Hid (k + 1 ≤ s.size → rest = piecesL 10 (s.data.toList.drop (k + 1))) := fun _ => hrest.symm
        have HRZ : Hid (k = s.size → rest = []) := fun h => by omega
        clear hn10 hr0 h10 hc hrest
        obtain ⟨x, hx⟩ : ∃ x, s.extract f k = x := ⟨_, rfl⟩
        have HX : Hid (x.size ≤ 70000) := by rw [← hx]; unfold Hid; rw [ByteArray.size_extract]; omega
        have HREST : Hid (res = comb acc (rowsOf L acc.length (x :: rest))) := by rw [← hx]; exact HREST0
        obtain ⟨ws, hws⟩ : ∃ ws, (if plainB x = true then wordsB x else []) = ws := ⟨_, rfl⟩
        obtain ⟨b, hb2⟩ : ∃ b, plainB x = b := ⟨_, rfl⟩
        obtain ⟨m, hm⟩ : ∃ m, ws.length = m := ⟨_, rfl⟩
        have CW : Hid (∀ V, Calls Tryd.prog 20 #[.string (s.extract f k)] V fun e w' => ∃ A c, e = .returned (.tuple #[.slice A m c, .bool b]) ∧ (A = none → c = 0) ∧ Hid (w'.ownsRow V.heap.size 9 1 (.slice A m c) m (ws.map Value.string)) ∧ Hid (Below V.heap.size V w')) := fun V => by
          have h1 := rw_any HX.out V
          unfold RowWR at h1
          rw [hws, hb2] at h1
          rw [hm] at h1
          rw [hx]
          exact h1
        have HM := ehide hm
        have HBAD : Hid (∀ V, (b = false ∨ (b = true ∧ 24 < m)) → Hid (Below W.heap.size W V) → ParseR W res (.returned (.tuple #[.slice none 0 0, .int .i64 ((L : Int) + 1), .int .i64 2])) V) := fun V h1 h2 => by
          rw [HREST.out, comb_bad (by
            rcases h1 with h1 | ⟨h1, h3⟩
            · left; rw [hb2]; exact h1
            · right; rw [if_pos (by rw [hb2]; exact h1)] at hws; rw [hws, hm]; exact h3)]
          exact parse_no (n := L + 1) (x := 2) h2
        have HWW : Hid (b = true → wordsB x = ws) := fun h1 => by rw [if_pos (by rw [hb2]; exact h1)] at hws; exact hws
        have HFULL : Hid (∀ V, b = true → ¬ 24 < m → ¬ m = 0 → acc.length = 2000 → Hid (Below W.heap.size W V) → ParseR W res (.returned (.tuple #[.slice none 0 0, .int .i64 ((L : Int) + 1), .int .i64 11])) V) := fun V h1 h2 h3 h4 h5 => by
          rw [HREST.out, h4, comb_full (by rw [hb2, h1]) (by rw [HWW.out h1, hm]; omega) (by rw [HWW.out h1]; intro e; rw [e] at hm; exact h3 hm.symm)]
          exact parse_no (n := L + 1) (x := 11) h5
        have HNONE : Hid (b = true → m = 0 → res = comb acc (rowsOf (L + 1) acc.length rest)) := fun h1 h2 => by
          rw [HREST.out, comb_none (by rw [hb2, h1]) (by rw [HWW.out h1]; exact List.eq_nil_of_length_eq_zero (by rw [hm, h2]))]
        have HMORE : Hid (b = true → ¬ 24 < m → ¬ m = 0 → ¬ acc.length = 2000 → res = comb (acc ++ [(L + 1, ws)]) (rowsOf (L + 1) (acc.length + 1) rest)) := fun h1 h2 h3 h4 => by
          rw [HREST.out, comb_more (by rw [hb2, h1]) (by rw [HWW.out h1, hm]; omega) (by rw [HWW.out h1]; intro e; rw [e] at hm; exact h3 hm.symm) h4, HWW.out h1]
        clear HREST0 hx HREST hws hb2 hm hres
        cases b
        · go_wp2_with (first | (go_at_call 20; (with_reducible refine (CW.out _).mono ?_); rintro e w2 ⟨A2, c2, rfl, hA2, how, hbk2⟩; have HB2 : Hid (Below W.heap.size W w2) := HB.out.trans (hbk2.out.mono HB.out.size); have HR2 := ehide (hrc.out.below hbk2.out); have HZ2 := ehide HB2.out.size) | fail)
          go_ret3
          exact HBAD.out _ (.inl (by first | rfl | trivial)) HB2
        · by_cases h24 : 24 < m
          · have d24 : decide ((24 : Int) < (m : Int)) = true := decide_eq_true (by omega)
            have HH := ehide h24
            clear h24
            go_wp2_with (first | (go_at_call 20; (with_reducible refine (CW.out _).mono ?_); rintro e w2 ⟨A2, c2, rfl, hA2, how, hbk2⟩; have HB2 : Hid (Below W.heap.size W w2) := HB.out.trans (hbk2.out.mono HB.out.size); have HR2 := ehide (hrc.out.below hbk2.out); have HZ2 := ehide HB2.out.size) | fail)
            go_ret3
            exact HBAD.out _ (.inr ⟨by first | rfl | trivial, HH.out⟩) HB2
          · have d24 : decide ((24 : Int) < (m : Int)) = false := decide_eq_false (by omega)
            have H24 := ehide h24
            clear h24
            by_cases hz : m = 0
            · have HNZ := ehide (HNONE.out (by first | rfl | trivial) hz)
              subst hz
              go_wp2_with (first | (go_at_call 20; (with_reducible refine (CW.out _).mono ?_); rintro e w2 ⟨A2, c2, rfl, hA2, how, hbk2⟩; have HB2 : Hid (Below W.heap.size W w2) := HB.out.trans (hbk2.out.mono HB.out.size); have HR2 := ehide (hrc.out.below hbk2.out); have HZ2 := ehide HB2.out.size) | fail)
              go_roundw
              case rel => exact ⟨k + 1, k + 1, L + 1, acc, vs, A, cp, by omega, Nat.le_refl _, by omega, by go_num, by go_num, by go_num, rfl, hacc, fun h => ⟨by rw [Nat.sub_self]; simp, by rw [HNZ.out, HRA.out (by omega)]⟩, fun h => by rw [HNZ.out, HRZ.out (by omega), comb_nil], HR2, HB2⟩
              case measure => simp [intOf]; omega
            · have HZ := ehide hz
              have dz : decide ((0 : Int) < (m : Int)) = true := decide_eq_true (by omega)
              have dz2 : decide (0 < m) = true := decide_eq_true (by omega)
              have dz3 : 0 < m := by omega
              clear hz
              by_cases hq : acc.length = 2000
              · have dq : ((acc.length : Int) == 2000) = true := by rw [hq]; rfl
                have HQ := ehide hq
                clear hq
                go_wp2_with (first | (go_at_call 20; (with_reducible refine (CW.out _).mono ?_); rintro e w2 ⟨A2, c2, rfl, hA2, how, hbk2⟩; have HB2 : Hid (Below W.heap.size W w2) := HB.out.trans (hbk2.out.mono HB.out.size); have HR2 := ehide (hrc.out.below hbk2.out); have HZ2 := ehide HB2.out.size) | fail)
                go_ret3
                exact HFULL.out _ (by first | rfl | trivial) H24.out HZ.out HQ.out HB2
              · have dq : ((acc.length : Int) == 2000) = false := by rw [beq_eq_false_iff_ne]; omega
                have HMR := ehide (HMORE.out (by first | rfl | trivial) H24.out HZ.out hq)
                have hacc2 : acc.length + 1 ≤ 2000 := by omega
                have Q7 : Hid (acc.length + 1 ≤ maxLen) := by unfold Hid maxLen; omega
                have Q8 : Hid ((acc.length + 1) * 32 ≤ 140737488355328) := by unfold Hid; omega
                have Q6 : Hid (∀ (A : Option Addr) (c : Nat), ∀ u ∈ [Value.int .i64 ((L : Int) + 1), Value.slice A m c], u.oneCell' = true) := by intro A c u hu; simp at hu; rcases hu with rfl | rfl <;> rfl
                clear hq
                go_wp2_with (first | (go_at_call 20; (with_reducible refine (CW.out _).mono ?_); rintro e w2 ⟨A2, c2, rfl, hA2, how, hbk2⟩; have HB2 : Hid (Below W.heap.size W w2) := HB.out.trans (hbk2.out.mono HB.out.size); have HR2 := ehide (hrc.out.below hbk2.out); have HZ2 := ehide HB2.out.size) | (at_builtin; refine wpList_append_own_at _ rfl (.tmp 66) (.tmp 70) 32 rfl W.heap.size 31 i0 (.agg #[.int .i64 0, .slice none 0 0]) 2 32 Tryd.underlying32 J0.out Y0.out Y1.out Y2.out rfl (by decide) (.slice A acc.length cp) _ _ rfl (HR2.out.own.alloc _) ⟨w2.heap.size, 0, none⟩ 1 1 [.int .i64 ((L : Int) + 1), .slice A2 m c2] rfl rfl (cell_two_new w2 _ _ _) (Q6.out _ _) Q7.out Q8.out (Nat.le_trans HZ2.out (Nat.le_of_lt (by rw [World.size_alloc]; exact Nat.lt_succ_self _))) ?_; intro v1 w4 ho1 hg1 hn1 ha1; clear hn1 ha1; obtain ⟨g1, cap1, rfl⟩ := ownsRow_succ ho1; have HO1 := ehide ho1; have HG1 := ehide hg1; clear ho1 hg1) | fail)
                go_roundw
                case rel =>
                  refine ⟨k + 1, k + 1, L + 1, acc ++ [(L + 1, ws)], vs ++ [.slice A2 m c2], some ⟨g1, 0, none⟩, cap1, by omega, Nat.le_refl _, by omega, by go_num, by go_num, by go_num, by rw [List.length_append]; rfl, by rw [List.length_append]; exact hacc2, fun h => ⟨by rw [Nat.sub_self]; simp, by rw [List.length_append, HMR.out, HRA.out (by omega)]; rfl⟩, fun h => by rw [HMR.out, HRZ.out (by omega), comb_nil], ?_, ?_⟩
                  · have h9 := (HR2.out.alloc _).more (r := (L + 1, ws)) (x := .slice A2 m c2) ⟨⟨A2, c2, by rw [HM.out], hA2⟩, by rw [HM.out]; exact own_less (how.out.alloc _) HB.out.size⟩ HO1.out HG1.out
                    unfold Hid
                    rw [List.length_append]
                    exact h9
                  · exact (HB2.out.alloc HZ2.out _).grown HG1.out (Nat.le_trans HZ2.out (by simp)) (fun g e => (HR2.out.own.lt g e).1)
                case measure => simp [intOf]; omega
      · have d0 : ((s[k].toNat : Int) == 10) = false := by
          rw [beq_eq_false_iff_ne]; intro e; exact h10 ((byte_eq (n := 10) (by decide)).2 (by omega))
        have d1 : ((s[k].toNat : Int) != 10) = true := by
          rw [bne_iff_ne]; intro e; exact h10 ((byte_eq (n := 10) (by decide)).2 (by omega))
        have HN1 := ehide (fk_more hlt hf h10 hn10)
        have HR0 := ehide hr0
        clear hn10 hr0 h10
        go_wp2
        go_roundw
        case rel => exact ⟨k + 1, f, L, acc, vs, A, cp, by omega, by omega, by omega, by go_num, rfl, rfl, rfl, hacc, fun _ => ⟨HN1.out, HR0.out⟩, fun h => by omega, hrc, HB⟩
        case measure => simp [intOf]; omega
    · by_cases hke : k = s.size
      · have dle : decide (k ≤ s.size) = true := decide_eq_true (by omega)
        have dle2 : decide ((k : Int) ≤ (s.size : Int)) = true := decide_eq_true (by omega)
        have dlt : decide (k < s.size) = false := decide_eq_false (by omega)
        have dks : ((k : Int) == (s.size : Int)) = true := by rw [beq_iff_eq]; omega
        obtain ⟨hn10, hr0⟩ := hres.out (by omega)
        rw [hke] at hn10
        have hf2 : f ≤ s.size := by omega
        have hl := fk_last hf2 hn10
        by_cases hfk : f = k
        · have dfk : ((f : Int) == (k : Int)) = true := by rw [beq_iff_eq]; omega
          have HE : Hid (res = (acc, 0, 0)) := by
            have e : s.extract f s.size = ⟨#[]⟩ := by
              apply ByteArray.ext; apply Array.toList_inj.1
              rw [Lib.extract_data, show s.size - f = 0 by omega]; rfl
            rw [hr0, hl, e, comb_none (by decide) (by decide), comb_nil]; exact rfl
          have hk2 : k ≤ s.size := by omega
          clear hn10 hr0 hl hfk hke hres
          go_wp2
          go_roundw
          case rel => exact ⟨k + 1, f, L, acc, vs, A, cp, by omega, by omega, by omega, by go_num, rfl, rfl, rfl, hacc, fun h => by omega, fun _ => HE.out, hrc, HB⟩
          case measure => simp [intOf]; omega
        · have dfk : ((f : Int) == (k : Int)) = false := by rw [beq_eq_false_iff_ne]; omega
          have cF : (f : Int) ≤ (k : Int) := by omega
          have cK : (k : Int) ≤ (s.size : Int) := by omega
          obtain ⟨rest, hrest⟩ : ∃ r : List ByteArray, r = [] := ⟨_, rfl⟩
          have HREST0 : res = comb acc (rowsOf L acc.length (s.extract f k :: rest)) := by rw [hr0, hl, hrest, hke]
          have HRA : Hid (k + 1 ≤ s.size → rest = piecesL 10 (s.data.toList.drop (k + 1))) := fun h => by omega
          have HRZ : Hid (k = s.size → rest = []) := fun _ => hrest
          clear hn10 hr0 hl hfk hrest
          have HKE := ehide hke
          clear hke
          obtain ⟨x, hx⟩ : ∃ x, s.extract f k = x := ⟨_, rfl⟩
          have HX : Hid (x.size ≤ 70000) := by rw [← hx]; unfold Hid; rw [ByteArray.size_extract]; omega
          have HREST : Hid (res = comb acc (rowsOf L acc.length (x :: rest))) := by rw [← hx]; exact HREST0
          obtain ⟨ws, hws⟩ : ∃ ws, (if plainB x = true then wordsB x else []) = ws := ⟨_, rfl⟩
          obtain ⟨b, hb2⟩ : ∃ b, plainB x = b := ⟨_, rfl⟩
          obtain ⟨m, hm⟩ : ∃ m, ws.length = m := ⟨_, rfl⟩
          have CW : Hid (∀ V, Calls Tryd.prog 20 #[.string (s.extract f k)] V fun e w' => ∃ A c, e = .returned (.tuple #[.slice A m c, .bool b]) ∧ (A = none → c = 0) ∧ Hid (w'.ownsRow V.heap.size 9 1 (.slice A m c) m (ws.map Value.string)) ∧ Hid (Below V.heap.size V w')) := fun V => by
            have h1 := rw_any HX.out V
            unfold RowWR at h1
            rw [hws, hb2] at h1
            rw [hm] at h1
            rw [hx]
            exact h1
          have HM := ehide hm
          have HBAD : Hid (∀ V, (b = false ∨ (b = true ∧ 24 < m)) → Hid (Below W.heap.size W V) → ParseR W res (.returned (.tuple #[.slice none 0 0, .int .i64 ((L : Int) + 1), .int .i64 2])) V) := fun V h1 h2 => by
            rw [HREST.out, comb_bad (by
              rcases h1 with h1 | ⟨h1, h3⟩
              · left; rw [hb2]; exact h1
              · right; rw [if_pos (by rw [hb2]; exact h1)] at hws; rw [hws, hm]; exact h3)]
            exact parse_no (n := L + 1) (x := 2) h2
          have HWW : Hid (b = true → wordsB x = ws) := fun h1 => by rw [if_pos (by rw [hb2]; exact h1)] at hws; exact hws
          have HFULL : Hid (∀ V, b = true → ¬ 24 < m → ¬ m = 0 → acc.length = 2000 → Hid (Below W.heap.size W V) → ParseR W res (.returned (.tuple #[.slice none 0 0, .int .i64 ((L : Int) + 1), .int .i64 11])) V) := fun V h1 h2 h3 h4 h5 => by
            rw [HREST.out, h4, comb_full (by rw [hb2, h1]) (by rw [HWW.out h1, hm]; omega) (by rw [HWW.out h1]; intro e; rw [e] at hm; exact h3 hm.symm)]
            exact parse_no (n := L + 1) (x := 11) h5
          have HNONE : Hid (b = true → m = 0 → res = comb acc (rowsOf (L + 1) acc.length rest)) := fun h1 h2 => by
            rw [HREST.out, comb_none (by rw [hb2, h1]) (by rw [HWW.out h1]; exact List.eq_nil_of_length_eq_zero (by rw [hm, h2]))]
          have HMORE : Hid (b = true → ¬ 24 < m → ¬ m = 0 → ¬ acc.length = 2000 → res = comb (acc ++ [(L + 1, ws)]) (rowsOf (L + 1) (acc.length + 1) rest)) := fun h1 h2 h3 h4 => by
            rw [HREST.out, comb_more (by rw [hb2, h1]) (by rw [HWW.out h1, hm]; omega) (by rw [HWW.out h1]; intro e; rw [e] at hm; exact h3 hm.symm) h4, HWW.out h1]
          clear HREST0 hx HREST hws hb2 hm hres
          cases b
          · go_wp2_with (first | (go_at_call 20; (with_reducible refine (CW.out _).mono ?_); rintro e w2 ⟨A2, c2, rfl, hA2, how, hbk2⟩; have HB2 : Hid (Below W.heap.size W w2) := HB.out.trans (hbk2.out.mono HB.out.size); have HR2 := ehide (hrc.out.below hbk2.out); have HZ2 := ehide HB2.out.size) | fail)
            go_ret3
            exact HBAD.out _ (.inl (by first | rfl | trivial)) HB2
          · by_cases h24 : 24 < m
            · have d24 : decide ((24 : Int) < (m : Int)) = true := decide_eq_true (by omega)
              have HH := ehide h24
              clear h24
              go_wp2_with (first | (go_at_call 20; (with_reducible refine (CW.out _).mono ?_); rintro e w2 ⟨A2, c2, rfl, hA2, how, hbk2⟩; have HB2 : Hid (Below W.heap.size W w2) := HB.out.trans (hbk2.out.mono HB.out.size); have HR2 := ehide (hrc.out.below hbk2.out); have HZ2 := ehide HB2.out.size) | fail)
              go_ret3
              exact HBAD.out _ (.inr ⟨by first | rfl | trivial, HH.out⟩) HB2
            · have d24 : decide ((24 : Int) < (m : Int)) = false := decide_eq_false (by omega)
              have H24 := ehide h24
              clear h24
              by_cases hz : m = 0
              · have HNZ := ehide (HNONE.out (by first | rfl | trivial) hz)
                subst hz
                go_wp2_with (first | (go_at_call 20; (with_reducible refine (CW.out _).mono ?_); rintro e w2 ⟨A2, c2, rfl, hA2, how, hbk2⟩; have HB2 : Hid (Below W.heap.size W w2) := HB.out.trans (hbk2.out.mono HB.out.size); have HR2 := ehide (hrc.out.below hbk2.out); have HZ2 := ehide HB2.out.size) | fail)
                go_roundw
                case rel => exact ⟨k + 1, k + 1, L + 1, acc, vs, A, cp, by omega, Nat.le_refl _, by omega, by go_num, by go_num, by go_num, rfl, hacc, fun h => ⟨by rw [Nat.sub_self]; simp, by rw [HNZ.out, HRA.out (by have := HKE.out; omega)]⟩, fun h => by rw [HNZ.out, HRZ.out HKE.out, comb_nil], HR2, HB2⟩
                case measure => simp [intOf]; omega
              · have HZ := ehide hz
                have dz : decide ((0 : Int) < (m : Int)) = true := decide_eq_true (by omega)
                have dz2 : decide (0 < m) = true := decide_eq_true (by omega)
                have dz3 : 0 < m := by omega
                clear hz
                by_cases hq : acc.length = 2000
                · have dq : ((acc.length : Int) == 2000) = true := by rw [hq]; rfl
                  have HQ := ehide hq
                  clear hq
                  go_wp2_with (first | (go_at_call 20; (with_reducible refine (CW.out _).mono ?_); rintro e w2 ⟨A2, c2, rfl, hA2, how, hbk2⟩; have HB2 : Hid (Below W.heap.size W w2) := HB.out.trans (hbk2.out.mono HB.out.size); have HR2 := ehide (hrc.out.below hbk2.out); have HZ2 := ehide HB2.out.size) | fail)
                  go_ret3
                  exact HFULL.out _ (by first | rfl | trivial) H24.out HZ.out HQ.out HB2
                · have dq : ((acc.length : Int) == 2000) = false := by rw [beq_eq_false_iff_ne]; omega
                  have HMR := ehide (HMORE.out (by first | rfl | trivial) H24.out HZ.out hq)
                  have hacc2 : acc.length + 1 ≤ 2000 := by omega
                  have Q7 : Hid (acc.length + 1 ≤ maxLen) := by unfold Hid maxLen; omega
                  have Q8 : Hid ((acc.length + 1) * 32 ≤ 140737488355328) := by unfold Hid; omega
                  have Q6 : Hid (∀ (A : Option Addr) (c : Nat), ∀ u ∈ [Value.int .i64 ((L : Int) + 1), Value.slice A m c], u.oneCell' = true) := by intro A c u hu; simp at hu; rcases hu with rfl | rfl <;> rfl
                  clear hq
                  go_wp2_with (first | (go_at_call 20; (with_reducible refine (CW.out _).mono ?_); rintro e w2 ⟨A2, c2, rfl, hA2, how, hbk2⟩; have HB2 : Hid (Below W.heap.size W w2) := HB.out.trans (hbk2.out.mono HB.out.size); have HR2 := ehide (hrc.out.below hbk2.out); have HZ2 := ehide HB2.out.size) | (at_builtin; refine wpList_append_own_at _ rfl (.tmp 66) (.tmp 70) 32 rfl W.heap.size 31 i0 (.agg #[.int .i64 0, .slice none 0 0]) 2 32 Tryd.underlying32 J0.out Y0.out Y1.out Y2.out rfl (by decide) (.slice A acc.length cp) _ _ rfl (HR2.out.own.alloc _) ⟨w2.heap.size, 0, none⟩ 1 1 [.int .i64 ((L : Int) + 1), .slice A2 m c2] rfl rfl (cell_two_new w2 _ _ _) (Q6.out _ _) Q7.out Q8.out (Nat.le_trans HZ2.out (Nat.le_of_lt (by rw [World.size_alloc]; exact Nat.lt_succ_self _))) ?_; intro v1 w4 ho1 hg1 hn1 ha1; clear hn1 ha1; obtain ⟨g1, cap1, rfl⟩ := ownsRow_succ ho1; have HO1 := ehide ho1; have HG1 := ehide hg1; clear ho1 hg1) | fail)
                  go_roundw
                  case rel =>
                    refine ⟨k + 1, k + 1, L + 1, acc ++ [(L + 1, ws)], vs ++ [.slice A2 m c2], some ⟨g1, 0, none⟩, cap1, by omega, Nat.le_refl _, by omega, by go_num, by go_num, by go_num, by rw [List.length_append]; rfl, by rw [List.length_append]; exact hacc2, fun h => ⟨by rw [Nat.sub_self]; simp, by rw [List.length_append, HMR.out, HRA.out (by have := HKE.out; omega)]; rfl⟩, fun h => by rw [HMR.out, HRZ.out HKE.out, comb_nil], ?_, ?_⟩
                    · have h9 := (HR2.out.alloc _).more (r := (L + 1, ws)) (x := .slice A2 m c2) ⟨⟨A2, c2, by rw [HM.out], hA2⟩, by rw [HM.out]; exact own_less (how.out.alloc _) HB.out.size⟩ HO1.out HG1.out
                      unfold Hid
                      rw [List.length_append]
                      exact h9
                    · exact (HB2.out.alloc HZ2.out _).grown HG1.out (Nat.le_trans HZ2.out (by simp)) (fun g e => (HR2.out.own.lt g e).1)
                  case measure => simp [intOf]; omega
      · obtain rfl : k = s.size + 1 := by omega
        have dle : decide (s.size + 1 ≤ s.size) = false := decide_eq_false (by omega)
        have HE : Hid (ParseR W res (.returned (.tuple #[.slice A acc.length cp, .int .i64 0, .int .i64 0])) wr) := by
          rw [hend.out rfl]
          exact ref_yes hrc.out HB
        clear hres hend
        go_wp2
        go_ret3
        exact HE.out
end Go.Proofs.YtbmpbcnhgnmekaaDoor
