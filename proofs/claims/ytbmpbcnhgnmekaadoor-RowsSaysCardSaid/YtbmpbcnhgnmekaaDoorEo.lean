/- slices.Clone of strings; rows.Of. No conditions. -/
import Derived.Test.YtbmpbcnhgnmekaaDoorEj
import Derived.Test.YtbmpbcnhgnmekaaDoorEk
import Derived.Deep.AppendLies
import Derived.Deep.RegionHeld3
open Go.RowKit
set_option maxRecDepth 100000
namespace Go.Proofs.YtbmpbcnhgnmekaaDoor
set_option maxHeartbeats 2000000 in
theorem clone_ss {W : World} {A : Option Addr} {n c : Nat} {xs : List ByteArray} (h : Ss W A xs) (hn : n + 1 = xs.length) (hN : n + 1 ≤ 1000000) :
    Calls Tryd.prog 19 #[.slice A (n + 1) c] W fun e w' => ∃ g c', e = .returned (.slice (some ⟨g, 0, none⟩) (n + 1) c') ∧ Hid (w'.ownsRow W.heap.size 9 1 (.slice (some ⟨g, 0, none⟩) (n + 1) c') (n + 1) (xs.map Value.string)) ∧ Hid (Below W.heap.size W w') := by
  obtain ⟨ad, rfl, hb, hc⟩ := h.out (by omega)
  have q : ∀ (w : World) (a : Option Addr) (n c n' c' : Nat), (binOp .eql 29 (.slice a n c) (.slice none n' c')).run Tryd.prog w = .ok (.bool a.isNone) w := fun w a n c n' c' => Lib.run_eql_slice_nil w _ _ a n c n' c' Tryd.underlying29
  obtain ⟨i0, hi, hz0, hz1, hz2⟩ := info_parts infoStrE
  have HC := ehide hc
  have HNN := ehide hn
  have HB := ehide hb
  have J0 := ehide hi; have Y0 := ehide hz0; have Y1 := ehide hz1; have Y2 := ehide hz2
  clear hc hn hb hi hz0 hz1 hz2 h
  go_enter Tryd.func19, Tryd.ntmps19
  go_wp2_with (at_builtin; refine wpList_append_own _ rfl _ _ 29 rfl W.heap.size 9 i0 (.string ByteArray.empty) 1 16 Tryd.underlying29 J0.out Y0.out Y1.out Y2.out rfl (by decide) _ _ _ rfl (World.ownsRow_made W #[] 0 (Nat.le_refl _) (Nat.zero_le _) rfl) ad (n + 1) c (xs.map Value.string) rfl ?qc1 ?qc2 ?qc3 ?qc4 ?qc5 ?qc6 ?_)
  case qc1 => rw [List.length_map, ← HNN.out]; omega
  case qc2 =>
    intro j u hj
    rw [List.getElem?_map] at hj
    obtain ⟨x, hx, rfl⟩ := Option.map_eq_some_iff.1 hj
    have h1 : (ad.add j).block < W.heap.size := by rw [yblock_add]; exact HB.out
    rw [World.cell?_alloc_lt W _ _ h1]
    exact HC.out j x hx
  case qc3 => intro u hu; obtain ⟨x, _, rfl⟩ := List.mem_map.1 hu; rfl
  case qc4 => unfold maxLen; omega
  case qc5 => omega
  case qc6 => simp
  intro v' w1 hown hgrow hnil
  obtain ⟨g, cap, rfl⟩ := ownsRow_succ hown
  go_wp2
  go_ret
  refine ⟨g, cap, rfl, hown, ?_⟩
  exact ((Below.refl _ W).alloc (Nat.le_refl _) _).grown hgrow (by simp) (by intro k hk; simp [Value.ownBlock] at hk; omega)
theorem add_nil (ad : Addr) : ad.add 0 = ad := by
  obtain ⟨b, o, e⟩ := ad
  unfold Addr.add
  split <;> simp_all
/-- The rows of a kind. -/
def ofR (kind : ByteArray) (rs : List TRow) : List TRow := rs.filter fun r => decide (r.2.head? = some kind)
theorem ofR_more {kind : ByteArray} {rs : List TRow} {k : Nat} {r : TRow} (h : rs[k]? = some r) : ofR kind (rs.take (k + 1)) = if r.2.head? = some kind then ofR kind (rs.take k) ++ [r] else ofR kind (rs.take k) := by
  have e : rs.take (k + 1) = rs.take k ++ [r] := by rw [List.take_add_one, h]; rfl
  unfold ofR
  rw [e, List.filter_append, List.filter_cons]
  by_cases h1 : r.2.head? = some kind
  · rw [if_pos h1, if_pos (by simpa using h1)]; rfl
  · rw [if_neg h1, if_neg (by simpa using h1)]; simp
theorem ofR_le {kind : ByteArray} {rs : List TRow} : (ofR kind rs).length ≤ rs.length := List.length_filter_le _ _
theorem RB.dr {base : Nat} {w : World} {v : Value} {rs : List TRow} {vs : List Value} (h : RB base w v rs vs) : RB base w.drew v rs vs := ⟨h.len, h.own, h.inner⟩
set_option maxHeartbeats 8000000 in
theorem of_any {W : World} {A : Option Addr} {n c : Nat} {rs : List TRow} {kind : ByteArray} (h : Rs W A rs) (hn : n = rs.length) (hN : n ≤ 2000) (hw : ∀ r ∈ rs, r.2 ≠ [] ∧ r.2.length ≤ 24) :
    Calls Tryd.prog 9 #[.slice A n c, .string kind] W fun e w' => ∃ A' c', e = .returned (.slice A' (ofR kind rs).length c') ∧ Rs w' A' (ofR kind rs) ∧ Hid (Below W.heap.size W w') := by
  have HN := ehide hn
  have HWS := ehide hw
  obtain ⟨i0, hi, hz0, hz1, hz2⟩ := info_parts infoRow
  have J0 := ehide hi; have Y0 := ehide hz0; have Y1 := ehide hz1; have Y2 := ehide hz2
  clear hn hw hi hz0 hz1 hz2
  go_enter Tryd.func9, Tryd.ntmps9
  go_wp2
  go_loopw [5, 10] (fun lv iv wr => ∃ (k : Nat) (acc : List TRow) (vs : List Value) (A : Option Addr) (cp : Nat), k ≤ n ∧ iv = .int .i64 (k : Int) ∧ lv = .slice A acc.length cp ∧ acc.length ≤ 2000 ∧ Hid (acc = ofR kind (rs.take k)) ∧
      Hid (RB W.heap.size wr (.slice A acc.length cp) acc vs) ∧ Hid (Below W.heap.size W wr)) (fun _ iv _ => n - (intOf iv).toNat)
  case atStart => exact ⟨0, [], [], none, 0, Nat.zero_le _, rfl, rfl, by decide, rfl, RB.nil, Below.refl _ _⟩
  case round =>
    obtain ⟨k, acc, vs, A1, cp, hk, rfl, rfl, hacc, HQ, HRB, HW⟩ := hrel
    by_cases hlt : k < n
    · obtain ⟨r, hr⟩ : ∃ r, rs[k]? = some r := ⟨rs[k]'(by rw [← HN.out]; exact hlt), List.getElem?_eq_getElem (by rw [← HN.out]; exact hlt)⟩
      obtain ⟨g, A2, c2, rfl, hg, hc0, hc1, hA2, hcc, hss⟩ := (h.up HW).row hr
      obtain ⟨hr1, hr2⟩ := HWS.out r (List.mem_of_getElem? hr)
      have HM := ehide (ofR_more (kind := kind) hr)
      obtain ⟨r1, r2⟩ := r
      obtain ⟨x, xs, rfl⟩ : ∃ x xs, r2 = x :: xs := by cases r2 with
        | nil => exact absurd rfl hr1
        | cons x xs => exact ⟨x, xs, rfl⟩
      obtain ⟨m, hm⟩ : ∃ m, xs.length = m := ⟨_, rfl⟩
      obtain ⟨ad, rfl, hadb, hadc⟩ := hss.out (by simp)
      have hx := hadc 0 x rfl
      rw [add_nil] at hx
      replace hc0 : wr.cell? ⟨g, k * 2, none⟩ = some (.int .i64 (r1 : Int)) := hc0
      replace hc1 : wr.cell? ⟨g, k * 2 + 1, none⟩ = some (.slice (some ad) (m + 1) c2) := by rw [← hm]; exact hc1
      have hxa : (wr.alloc (.cells #[.int .i64 (r1 : Int), .slice (some ad) (m + 1) c2] 33)).cell? ad = some (.string x) := (World.cell?_alloc_lt wr _ _ hadb).trans hx
      have w1' : IntKind.i64.wrap ((k : Int) + 1) = (k : Int) + 1 := IntWalk.i64_in _ (by omega)
      have hm24 : m + 1 ≤ 24 := by rw [← hm]; exact hr2
      have dm : decide ((0 : Int) < ((m + 1 : Nat) : Int)) = true := decide_eq_true (by omega)
      have HBX := ehide (cell_at2 wr (.int .i64 (r1 : Int)) (.slice (some ad) (m + 1) c2) 33)
      have HWV : Hid (Below W.heap.size W (wr.alloc (.cells #[.int .i64 (r1 : Int), .slice (some ad) (m + 1) c2] 33))) := HW.out.alloc HW.out.size _
      have HRV : Hid (RB W.heap.size (wr.alloc (.cells #[.int .i64 (r1 : Int), .slice (some ad) (m + 1) c2] 33)) (.slice A1 acc.length cp) acc vs) := HRB.out.alloc _
      have HL : Hid (∀ g, (Value.slice A1 acc.length cp).ownBlock = some g → W.heap.size ≤ g ∧ g < wr.heap.size) := fun g e => HRB.out.own.lt g e
      have HMM := ehide hm
      have CC : Hid (Calls Tryd.prog 19 #[.slice (some ad) (m + 1) c2] (wr.alloc (.cells #[.int .i64 (r1 : Int), .slice (some ad) (m + 1) c2] 33)).drew fun e w' => ∃ g c', e = .returned (.slice (some ⟨g, 0, none⟩) (m + 1) c') ∧ Hid (w'.ownsRow (wr.alloc (.cells #[.int .i64 (r1 : Int), .slice (some ad) (m + 1) c2] 33)).drew.heap.size 9 1 (.slice (some ⟨g, 0, none⟩) (m + 1) c') (m + 1) ((x :: xs).map Value.string)) ∧ Hid (Below (wr.alloc (.cells #[.int .i64 (r1 : Int), .slice (some ad) (m + 1) c2] 33)).drew.heap.size (wr.alloc (.cells #[.int .i64 (r1 : Int), .slice (some ad) (m + 1) c2] 33)).drew w')) :=
        clone_ss (hss.al _).dr (by rw [List.length_cons, hm]) (by omega)
      have HSZ : Hid (wr.heap.size < (wr.alloc (.cells #[.int .i64 (r1 : Int), .slice (some ad) (m + 1) c2] 33)).heap.size) := by rw [World.size_alloc]; exact Nat.lt_succ_self _
      by_cases hxk : x = kind
      · subst hxk
        have hq2 : acc.length + 1 ≤ 2000 := by
          have h1 := ofR_le (kind := x) (rs := rs.take (k + 1))
          rw [HM.out, if_pos (show (r1, x :: xs).2.head? = some x from rfl), ← HQ.out, List.length_append, List.length_take] at h1
          simp only [List.length_singleton] at h1
          omega
        have HQ2 : Hid (acc ++ [(r1, x :: xs)] = ofR x (rs.take (k + 1))) := by rw [HM.out, if_pos (show (r1, x :: xs).2.head? = some x from rfl), ← HQ.out]; exact rfl
        have Q7 : Hid (acc.length + 1 ≤ maxLen) := by unfold Hid maxLen; omega
        have Q8 : Hid ((acc.length + 1) * 32 ≤ 140737488355328) := by unfold Hid; omega
        have Q6 : Hid (∀ (A : Option Addr) (c : Nat), ∀ u ∈ [Value.int .i64 (r1 : Int), Value.slice A (m + 1) c], u.oneCell' = true) := by intro A c u hu; simp at hu; rcases hu with rfl | rfl <;> rfl
        clear hm hss hr hadc hr1 hr2 hA2 hcc hx
        go_wp2_with fail
        generalize wr.alloc (.cells #[.int .i64 (r1 : Int), .slice (some ad) (m + 1) c2] 33) = V at HBX HWV HRV CC HSZ hxa ⊢
        have hb0 := HBX.out.1
        have hb1 := HBX.out.2
        go_region_held3 (fun w' => w'.cell? ⟨wr.heap.size, 0, none⟩ = some (.int .i64 (r1 : Int)) ∧ w'.cell? ⟨wr.heap.size, 1, none⟩ = some (.slice (some ad) (m + 1) c2))
          (first | exact ⟨hb0, hb1⟩ | exact ⟨hd0.out, hd1.out⟩ | exact ⟨(World.cell?_alloc_lt w2 _ _ HS2.out).trans hd0.out, (World.cell?_alloc_lt w2 _ _ HS2.out).trans hd1.out⟩ | exact ⟨he0.out, he1.out⟩)
          (first
            | (go_at_call 19; (with_reducible refine CC.out.mono ?_); rintro e w2 ⟨g2, c3, rfl, HO, hbk⟩; have hd0 := ehide ((hbk.out.cell (p := ⟨wr.heap.size, 0, none⟩) HSZ.out).trans hb0); have hd1 := ehide ((hbk.out.cell (p := ⟨wr.heap.size, 1, none⟩) HSZ.out).trans hb1); have HS2 := ehide (Nat.lt_of_lt_of_le HSZ.out hbk.out.size); have HR2 := ehide (HRV.out.dr.below hbk.out); have HW2 := ehide (HWV.out.drew.trans (hbk.out.mono HWV.out.size)); have HZ2 := ehide HW2.out.size)
            | (refine step_append_lies _ rfl (.tmp 26) (.tmp 33) 23 rfl W.heap.size 33 i0 (.agg #[.int .i64 0, .slice none 0 0]) 2 32 Tryd.underlying23 J0.out Y0.out Y1.out Y2.out rfl (by decide) (.slice A1 acc.length cp) acc.length _ rfl (HR2.out.own.alloc _) ⟨w2.heap.size, 0, none⟩ 1 1 [.int .i64 (r1 : Int), .slice (some ⟨g2, 0, none⟩) (m + 1) c3] rfl rfl (cell_two_new w2 _ _ _) (Q6.out _ _) (by decide) Q7.out Q8.out (Nat.le_trans HZ2.out (Nat.le_of_lt (by rw [World.size_alloc]; exact Nat.lt_succ_self _))) _ rfl ?_; intro g1 cap1 w4 ho1 hg1 ha1 hl1; have HO1 := ehide ho1; have HG1 := ehide hg1; have he0 : Hid (w4.cell? ⟨wr.heap.size, 0, none⟩ = _) := (hg1.cell_far ⟨wr.heap.size, 0, none⟩ (Nat.lt_trans HS2.out (by rw [World.size_alloc]; exact Nat.lt_succ_self _)) (fun e => Nat.lt_irrefl _ (HL.out _ e.symm).2)).trans ((World.cell?_alloc_lt w2 _ _ HS2.out).trans hd0.out); have he1 : Hid (w4.cell? ⟨wr.heap.size, 1, none⟩ = _) := (hg1.cell_far ⟨wr.heap.size, 1, none⟩ (Nat.lt_trans HS2.out (by rw [World.size_alloc]; exact Nat.lt_succ_self _)) (fun e => Nat.lt_irrefl _ (HL.out _ e.symm).2)).trans ((World.cell?_alloc_lt w2 _ _ HS2.out).trans hd1.out); clear ho1 hg1 ha1 hl1)
            | fail)
        go_wp2
        go_roundw
        case rel =>
          refine ⟨k + 1, acc ++ [(r1, x :: xs)], vs ++ [.slice (some ⟨g2, 0, none⟩) (m + 1) c3], some ⟨g1, 0, none⟩, cap1, by omega, by go_num, by rw [List.length_append]; rfl, by rw [List.length_append]; exact hq2, HQ2, ?_, ?_⟩
          · have h9 := (HR2.out.alloc (.cells #[.int .i64 (r1 : Int), .slice (some ⟨g2, 0, none⟩) (m + 1) c3] 33)).more (r := (r1, x :: xs)) (x := .slice (some ⟨g2, 0, none⟩) (m + 1) c3) ⟨⟨_, c3, by rw [List.length_cons, HMM.out], fun e => by cases e⟩, by rw [List.length_cons, HMM.out]; exact own_less (HO.out.alloc _) HWV.out.size⟩ HO1.out HG1.out
            unfold Hid
            rw [List.length_append]
            exact h9
          · exact (HW2.out.alloc HZ2.out _).grown HG1.out (Nat.le_trans HZ2.out (by simp)) (fun g e => (HR2.out.own.lt g e).1)
        case measure => simp [intOf]; omega
      · have e2 : (x.toList == kind.toList) = false := by
          rw [beq_eq_false_iff_ne]; intro e3; rw [Lib.toList_data, Lib.toList_data] at e3
          exact hxk (ByteArray.ext (Array.ext' e3))
        have HQ2 : Hid (acc = ofR kind (rs.take (k + 1))) := by rw [HM.out, if_neg (by simpa using hxk)]; exact HQ.out
        clear hm hss hr hadc hr1 hr2 hA2 hcc hx hxk
        go_wp2_with fail
        go_roundw
        case rel => exact ⟨k + 1, acc, vs, A1, cp, by omega, by go_num, rfl, hacc, HQ2, HRV, HWV⟩
        case measure => simp [intOf]; omega
    · obtain rfl : k = n := by omega
      have HE : Hid (acc = ofR kind rs) := by
        have h2 := HQ.out
        rwa [List.take_of_length_le (by rw [← HN.out]; exact Nat.le_refl _)] at h2
      go_wp2
      go_ret
      refine ⟨A1, cp, ?_, ?_, HW⟩
      · rw [← HE.out]; rfl
      · rw [← HE.out]
        exact HRB.out.reads
end Go.Proofs.YtbmpbcnhgnmekaaDoor
