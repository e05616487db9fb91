/- rows.Parse of any text. No conditions. -/
import Derived.Test.YtbmpbcnhgnmekaaDoorEe
import Derived.WalkSmall
open Go.RowKit
set_option maxRecDepth 100000
namespace Go.Proofs.YtbmpbcnhgnmekaaDoor
/-- What is read out of a text. -/
def tableOf (s : ByteArray) : List TRow × Nat × Nat := if 65536 < s.size then ([], 0, 11) else rowsOf 0 0 (pieces 10 s)
def ParseR (W : World) (res : List TRow × Nat × Nat) (e : Ending) (w' : World) : Prop :=
  ∃ A c, e = .returned (.tuple #[.slice A res.1.length c, .int .i64 (res.2.1 : Int), .int .i64 (res.2.2 : Int)]) ∧ (A = none → c = 0) ∧ Rs w' A res.1 ∧ Hid (Below W.heap.size W w')
theorem parse_no {W w' : World} {n x : Nat} (hb : Hid (Below W.heap.size W w')) : ParseR W ([], n, x) (.returned (.tuple #[.slice none 0 0, .int .i64 (n : Int), .int .i64 (x : Int)])) w' :=
  ⟨none, 0, rfl, fun _ => rfl, (fun h => absurd h (by simp)), hb⟩
theorem parse_yes {W w' : World} {base : Nat} {A : Option Addr} {c : Nat} {rs : List TRow} {vs : List Value} (h : RB base w' (.slice A rs.length c) rs vs) (hb : Hid (Below W.heap.size W w')) : ParseR W (rs, 0, 0) (.returned (.tuple #[.slice A rs.length c, .int .i64 0, .int .i64 0])) w' := by
  refine ⟨A, c, rfl, fun hA => ?_, h.reads, hb⟩
  subst hA
  rcases h.own.2 with ⟨h0, _⟩ | ⟨g, cap, cur, h0, _⟩
  · injection h0
  · injection h0 with h1; cases h1
theorem ysum {l : List Nat} {x : Nat} (h : x ∈ l) : x ≤ l.sum := by
  induction l with
  | nil => cases h
  | cons a l ih =>
    rcases List.mem_cons.1 h with rfl | h
    · simp
    · have := ih h; simp; omega
theorem piece_size {c : UInt8} {s x : ByteArray} (h : x ∈ pieces c s) : x.size ≤ s.size := by
  have h1 := cutBy_total (a := c) s.data.toList
  have h2 : x.data.toList ∈ cutBy c s.data.toList := by rw [← pieces_data]; exact List.mem_map_of_mem h
  have h3 : x.data.toList.length ≤ ((cutBy c s.data.toList).map List.length).sum := ysum (List.mem_map_of_mem h2)
  rw [Lib.size_eq, Lib.size_eq]
  omega
theorem cells_new (w : World) (vs : List Value) (t : TypeId) : ∀ j u, vs[j]? = some u → (w.alloc (.cells vs.toArray t)).cell? ((⟨w.heap.size, 0, none⟩ : Addr).add j) = some u := by
  intro j u hj
  have e : (⟨w.heap.size, 0, none⟩ : Addr).add j = ⟨w.heap.size, j, none⟩ := by unfold Addr.add; split <;> simp_all
  rw [e]
  obtain ⟨h1, h2⟩ := List.getElem?_eq_some_iff.1 hj
  have h3 := World.alloc_heap_new w (.cells vs.toArray t)
  simp only [World.cell?]
  rw [h3]
  simp [hj]
theorem infoRow : (Tryd.prog.info? 33).map (fun i => (i.zero, i.size, i.bytes)) = some (some (.agg #[.int .i64 0, .slice none 0 0]), 2, 32) := by kernel_rfl
set_option maxHeartbeats 8000000 in
theorem parse_any {s : ByteArray} {res : List TRow × Nat × Nat} (hr : tableOf s = res) (W : World) : Calls Tryd.prog 8 #[.string s] W (ParseR W res) := by
  by_cases h0 : 65536 < s.size
  · have d : decide ((65536 : Int) < (s.size : Int)) = true := decide_eq_true (by omega)
    have HN : Hid (ParseR W res (.returned (.tuple #[.slice none 0 0, .int .i64 0, .int .i64 11])) W) := by
      rw [← hr]; unfold tableOf; rw [if_pos h0]
      exact parse_no (Below.refl _ _)
    clear h0 hr
    go_enter Tryd.func8, Tryd.ntmps8
    go_wp2
    go_ret3
    exact HN.out
  · have d : decide ((65536 : Int) < (s.size : Int)) = false := decide_eq_false (by omega)
    obtain ⟨ls, hls⟩ : ∃ ls, pieces 10 s = ls := ⟨_, rfl⟩
    have HSZ : Hid (∀ x ∈ ls, x.size ≤ 65536) := fun x hx => by rw [← hls] at hx; have := piece_size hx; omega
    have HR : Hid (res = comb [] (rowsOf 0 0 ls)) := by rw [comb_start, ← hr, ← hls]; unfold tableOf; rw [if_neg h0]; rfl
    obtain ⟨n, hn⟩ : ∃ n, ls.length = n := ⟨_, rfl⟩
    have hn2 : n ≤ 65537 := by
      have := pieces_len (c := 10) (s := s)
      rw [hls, hn] at this; omega
    have CS : Hid (∀ V, Calls Tryd.prog 16 #[.string s, .string ⟨#[10]⟩] V fun e w' => ∃ ad c, e = .returned (.slice (some ad) n c) ∧ Ss w' (some ad) ls ∧ Hid (Below V.heap.size V w')) := fun V => (ssplit_c hls V (show s.size ≤ 1000000 by omega)).mono fun e w' ⟨ad, c, h1, _, h3, h4⟩ => ⟨ad, c, by rw [h1, hn], h3, h4⟩
    have HN := ehide hn
    obtain ⟨i0, hi, hz0, hz1, hz2⟩ := info_parts infoRow
    have J0 := ehide hi; have Y0 := ehide hz0; have Y1 := ehide hz1; have Y2 := ehide hz2
    clear hn hls hr h0 hi hz0 hz1 hz2
    go_enter Tryd.func8, Tryd.ntmps8
    go_wp2_with (first | (go_at_call 16; (with_reducible refine (CS.out _).mono ?_); rintro e w1 ⟨ad, c, rfl, hss, hbk⟩) | fail)
    go_loopw [5, 16] (fun lv iv wr => ∃ (k : Nat) (acc : List TRow) (vs : List Value) (A : Option Addr) (cp : Nat), k ≤ n ∧ iv = .int .i64 (k : Int) ∧ lv = .slice A acc.length cp ∧ acc.length ≤ 2000 ∧
      Hid (res = comb acc (rowsOf k acc.length (ls.drop k))) ∧ Hid (RB w1.heap.size wr (.slice A acc.length cp) acc vs) ∧ Hid (Below w1.heap.size w1 wr)) (fun _ iv _ => n - (intOf iv).toNat)
    case atStart => exact ⟨0, [], [], none, 0, Nat.zero_le _, rfl, rfl, by decide, HR, RB.nil, Below.refl _ _⟩
    case round =>
      obtain ⟨k, acc, vs, A, cp, hk, rfl, rfl, hacc, hres, hrb, hbw⟩ := hrel
      have HWB : Hid (Below W.heap.size W wr) := hbk.out.trans (hbw.out.mono hbk.out.size)
      by_cases hlt : k < n
      · have hx : k < ls.length := by rw [HN.out]; exact hlt
        obtain ⟨ad2, e2, hb, hcell⟩ := (hss.up hbw).out.at_ hx
        obtain rfl : ad = ad2 := by injection e2
        obtain ⟨x, hxe⟩ : ∃ x, x = ls[k] := ⟨_, rfl⟩
        have hdr : ls.drop k = x :: ls.drop (k + 1) := by rw [hxe]; exact List.drop_eq_getElem_cons hx
        have hsz : x.size ≤ 65536 := HSZ.out x (by rw [hxe]; exact List.getElem_mem hx)
        rw [← hxe] at hcell
        rw [hdr] at hres
        obtain ⟨ws, hws⟩ : ∃ ws, wordsB x = ws := ⟨_, rfl⟩
        obtain ⟨b, hb2⟩ : ∃ b, plainB x = b := ⟨_, rfl⟩
        have CW : Hid (∀ V, Calls Tryd.prog 17 #[.string x] V fun e w' => ∃ A c, e = .returned (.slice A ws.length c) ∧ (A = none → c = 0) ∧ Hid (w'.ownsRow V.heap.size 9 1 (.slice A ws.length c) ws.length (ws.map Value.string)) ∧ Hid (Below V.heap.size V w')) := fun V => by
          have h1 := wordsOf_any (s := x) (by omega) V
          unfold WordsR at h1
          rwa [hws] at h1
        have CP : Hid (∀ V, Calls Tryd.prog 18 #[.string x] V fun e w' => e = .returned (.bool b) ∧ V = w') := fun V => isPlain_any hb2 (by omega) V
        have w1' : IntKind.i64.wrap ((k : Int) + 1) = (k : Int) + 1 := IntWalk.i64_in _ (by omega)
        obtain ⟨m, hm⟩ : ∃ m, ws.length = m := ⟨_, rfl⟩
        have HM := ehide hm
        have CW2 : Hid (∀ V, Calls Tryd.prog 17 #[.string x] V fun e w' => ∃ A c, e = .returned (.slice A m c) ∧ (A = none → c = 0) ∧ Hid (w'.ownsRow V.heap.size 9 1 (.slice A m c) m (ws.map Value.string)) ∧ Hid (Below V.heap.size V w')) := fun V => by
          have h1 := CW.out V
          rwa [hm] at h1
        clear CW
        have HBAD : Hid (∀ V, (b = false ∨ 24 < m) → Hid (Below W.heap.size W V) → ParseR W res (.returned (.tuple #[.slice none 0 0, .int .i64 ((k : Int) + 1), .int .i64 2])) V) := fun V h1 h2 => by
          rw [hres.out, comb_bad (by rw [hb2, hws, hm]; exact h1)]
          exact parse_no (n := k + 1) (x := 2) h2
        have HFULL : Hid (∀ V, b = true → ¬ 24 < m → ¬ m = 0 → acc.length = 2000 → Hid (Below W.heap.size W V) → ParseR W res (.returned (.tuple #[.slice none 0 0, .int .i64 ((k : Int) + 1), .int .i64 11])) V) := fun V h1 h2 h3 h4 h5 => by
          rw [hres.out, h4, comb_full (by rw [hb2, h1]) (by rw [hws, hm]; omega) (by rw [hws]; intro e; rw [e] at hm; exact h3 hm.symm)]
          exact parse_no (n := k + 1) (x := 11) h5
        have HNONE : Hid (b = true → m = 0 → res = comb acc (rowsOf (k + 1) acc.length (ls.drop (k + 1)))) := fun h1 h2 => by
          rw [hres.out, comb_none (by rw [hb2, h1]) (by rw [hws]; exact List.eq_nil_of_length_eq_zero (by rw [hm, h2]))]
        have HMORE : Hid (b = true → ¬ 24 < m → ¬ m = 0 → ¬ acc.length = 2000 → res = comb (acc ++ [(k + 1, ws)]) (rowsOf (k + 1) (acc.length + 1) (ls.drop (k + 1)))) := fun h1 h2 h3 h4 => by
          rw [hres.out, comb_more (by rw [hb2, h1]) (by rw [hws, hm]; omega) (by rw [hws]; intro e; rw [e] at hm; exact h3 hm.symm) h4, hws]
        clear hxe hdr hx hres hws hb2 hm e2
        cases b
        · go_wp2_with (first | (go_at_call 17; (with_reducible refine (CW2.out _).mono ?_); rintro e w2 ⟨A2, c2, rfl, hA2, how, hbk2⟩) | (go_at_call 18; (with_reducible refine (CP.out _).mono ?_); rintro e w3 ⟨rfl, rfl⟩) | fail)
          go_ret3
          exact HBAD.out _ (.inl (by first | rfl | trivial)) (HWB.out.trans (hbk2.out.mono HWB.out.size))
        · by_cases h24 : 24 < m
          · have d24 : decide ((24 : Int) < (m : Int)) = true := decide_eq_true (by omega)
            have HH := ehide h24
            clear h24
            go_wp2_with (first | (go_at_call 17; (with_reducible refine (CW2.out _).mono ?_); rintro e w2 ⟨A2, c2, rfl, hA2, how, hbk2⟩) | (go_at_call 18; (with_reducible refine (CP.out _).mono ?_); rintro e w3 ⟨rfl, rfl⟩) | fail)
            go_ret3
            exact HBAD.out _ (.inr HH.out) (HWB.out.trans (hbk2.out.mono HWB.out.size))
          · have d24 : decide ((24 : Int) < (m : Int)) = false := decide_eq_false (by omega)
            have H24 := ehide h24
            clear h24
            by_cases hz : m = 0
            · have HNZ := ehide (HNONE.out (by first | rfl | trivial) hz)
              subst hz
              go_wp2_with (first | (go_at_call 17; (with_reducible refine (CW2.out _).mono ?_); rintro e w2 ⟨A2, c2, rfl, hA2, how, hbk2⟩) | (go_at_call 18; (with_reducible refine (CP.out _).mono ?_); rintro e w3 ⟨rfl, rfl⟩) | fail)
              go_roundw
              case rel => exact ⟨k + 1, acc, vs, A, cp, by omega, by go_num, rfl, hacc, HNZ.out, hrb.out.below hbk2.out, hbw.out.trans (hbk2.out.mono hbw.out.size)⟩
              case measure => simp [intOf]; omega
            · have HZ := ehide hz
              have dz : ((m : Int) == 0) = false := by rw [beq_eq_false_iff_ne]; omega
              clear hz
              by_cases hq : acc.length = 2000
              · have dq : ((acc.length : Int) == 2000) = true := by rw [hq]; rfl
                have HQ := ehide hq
                clear hq
                go_wp2_with (first | (go_at_call 17; (with_reducible refine (CW2.out _).mono ?_); rintro e w2 ⟨A2, c2, rfl, hA2, how, hbk2⟩) | (go_at_call 18; (with_reducible refine (CP.out _).mono ?_); rintro e w3 ⟨rfl, rfl⟩) | fail)
                go_ret3
                exact HFULL.out _ (by first | rfl | trivial) H24.out HZ.out HQ.out (HWB.out.trans (hbk2.out.mono HWB.out.size))
              · have dq : ((acc.length : Int) == 2000) = false := by rw [beq_eq_false_iff_ne]; omega
                have HMR := ehide (HMORE.out (by first | rfl | trivial) H24.out HZ.out hq)
                have hacc2 : acc.length + 1 ≤ 2000 := by omega
                have Q7 : Hid (acc.length + 1 ≤ maxLen) := by unfold Hid maxLen; omega
                have Q8 : Hid ((acc.length + 1) * 32 ≤ 140737488355328) := by unfold Hid; omega
                have Q6 : Hid (∀ (A : Option Addr) (c : Nat), ∀ u ∈ [Value.int .i64 ((k : Int) + 1), Value.slice A m c], u.oneCell' = true) := by intro A c u hu; simp at hu; rcases hu with rfl | rfl <;> rfl
                clear hq
                go_wp2_with (first | (go_at_call 17; (with_reducible refine (CW2.out _).mono ?_); rintro e w2 ⟨A2, c2, rfl, hA2, how, hbk2⟩; have HR2 := ehide (hrb.out.below hbk2.out); have HB2 : Hid (Below w1.heap.size w1 w2) := hbw.out.trans (hbk2.out.mono hbw.out.size); have HZ2 := ehide (HB2.out.size)) | (go_at_call 18; (with_reducible refine (CP.out _).mono ?_); rintro e w3 ⟨rfl, rfl⟩) | (at_builtin; refine wpList_append_own_at _ rfl (.tmp 44) (.tmp 48) 23 rfl w1.heap.size 33 i0 (.agg #[.int .i64 0, .slice none 0 0]) 2 32 Tryd.underlying23 J0.out Y0.out Y1.out Y2.out rfl (by decide) (.slice A acc.length cp) _ _ rfl (HR2.out.own.alloc _) ⟨w2.heap.size, 0, none⟩ 1 1 [.int .i64 ((k : Int) + 1), .slice A2 m c2] rfl rfl (cell_two_new w2 _ _ _) (Q6.out _ _) Q7.out Q8.out (Nat.le_trans HZ2.out (Nat.le_of_lt (by rw [World.size_alloc]; exact Nat.lt_succ_self _))) ?_; intro v1 w4 ho1 hg1 hn1 ha1; clear hn1 ha1; obtain ⟨g1, cap1, rfl⟩ := ownsRow_succ ho1; have HO1 := ehide ho1; have HG1 := ehide hg1; clear ho1 hg1) | fail)
                go_roundw
                case rel =>
                  refine ⟨k + 1, acc ++ [(k + 1, ws)], vs ++ [.slice A2 m c2], some ⟨g1, 0, none⟩, cap1, by omega, by go_num, by rw [List.length_append]; rfl, by rw [List.length_append]; exact hacc2, by rw [List.length_append]; exact HMR, ?_, ?_⟩
                  · have h9 := (HR2.out.alloc _).more (r := (k + 1, ws)) (x := .slice A2 m c2) ⟨⟨A2, c2, by rw [HM.out], hA2⟩, by rw [HM.out]; exact own_less (how.out.alloc _) hbw.out.size⟩ HO1.out HG1.out
                    unfold Hid
                    rw [List.length_append]
                    exact h9
                  · exact (HB2.out.alloc HZ2.out _).grown HG1.out (Nat.le_trans HZ2.out (by simp)) (fun g e => (HR2.out.own.lt g e).1)
                case measure => simp [intOf]; omega
      · obtain rfl : k = n := by omega
        have HE : Hid (ParseR W res (.returned (.tuple #[.slice A acc.length cp, .int .i64 0, .int .i64 0])) wr) := by
          rw [hres.out, List.drop_of_length_le (by rw [HN.out]; exact Nat.le_refl _), comb_nil]
          exact parse_yes hrb.out HWB
        go_wp2
        go_ret3
        exact HE.out
end Go.Proofs.YtbmpbcnhgnmekaaDoor
