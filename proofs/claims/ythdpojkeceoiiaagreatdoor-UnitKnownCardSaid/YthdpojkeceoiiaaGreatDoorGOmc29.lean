/- Several texts in one, each with its own sentence and conditions. -/
import Derived.Test.YthdpojkeceoiiaaGreatDoorGOmc28
import Derived.Deep.CutRange
section
/- slices.Equal of atoms, unit.isSame, slices.EqualFunc of parts. Conditions: lists that fit. -/
open Go.RowKit
set_option maxRecDepth 100000
namespace Go.Proofs.YthdpojkeceoiiaaGreatDoor
set_option maxHeartbeats 2000000 in
theorem equalA_any {A B : Option Addr} {n m c d : Nat} {l l' : List AL} {w : World} (h : Cs w A (cellsA l)) (h' : Cs w B (cellsA l')) (hn : n = l.length) (hm : m = l'.length) (hl : n ≤ 1000000) (hl' : m ≤ 1000000) :
    Calls Tryz.prog 65 #[.slice A n c, .slice B m d] w (BoolQ w (sameA l l')) := by
  by_cases hnm : n = m
  · subst hnm
    have HN := khide hn
    have HM := khide hm
    clear hn hm
    go_enter Tryz.func65, Tryz.ntmps65
    go_wp2
    go_loopw [13] (fun iv wr => ∃ k q : Nat, k ≤ n ∧ iv = .int .i64 (k : Int) ∧ Hid (wr = w.drewN q) ∧ Hid (l.take k = l'.take k)) (fun iv _ => n - (intOf iv).toNat)
    case atStart => exact ⟨0, 0, Nat.zero_le _, rfl, rfl, rfl⟩
    case round =>
      obtain ⟨k, q, hk, rfl, HQ, HT⟩ := hrel
      by_cases hlt : k < n
      · obtain ⟨a, ha⟩ : ∃ a, l[k]? = some a := ⟨l[k]'(by rw [← HN.out]; exact hlt), List.getElem?_eq_getElem _⟩
        obtain ⟨b, hb⟩ : ∃ a, l'[k]? = some a := ⟨l'[k]'(by rw [← HM.out]; exact hlt), List.getElem?_eq_getElem _⟩
        have h9 : Cs wr A (cellsA l) := by rw [HQ.out]; exact h.dn q
        have h9' : Cs wr B (cellsA l') := by rw [HQ.out]; exact h'.dn q
        obtain ⟨ad, rfl, had, a0, a1, a2⟩ := cs_at3 h9 ha
        obtain ⟨bd, rfl, hbd, b0, b1, b2⟩ := cs_at3 h9' hb
        have k0 : (0 : Int) ≤ (k : Int) := by omega
        have k1 : (k : Int) < (n : Int) := by omega
        by_cases he : a = b
        · have HT2 : Hid (l.take (k + 1) = l'.take (k + 1)) := take_moreA ha (by rw [hb, he]) HT.out
          have q1 : ∀ W, (binOp .neq 59 (.agg #[.string a.1, .string a.2.1, .int .i64 a.2.2]) (.agg #[.string b.1, .string b.2.1, .int .i64 b.2.2])).run Tryz.prog W = .ok (.bool false) W := fun W => by
            rw [aneq W, eqA_al, decide_eq_true he]; rfl
          clear he ha hb h9 h9' had hbd
          go_wp2_with fail
          go_quiet (fail)
          go_wp2
          go_roundw
          case rel =>
            obtain ⟨q2, hq2⟩ := ydrew_more HQ
            exact ⟨k + 1, q2, by omega, by go_num, hq2, HT2⟩
          case measure => simp [intOf]; omega
        · have HD : Hid (sameA l l' = false) := decide_eq_false (fun e => he (by rw [e, hb] at ha; exact (Option.some.inj ha).symm))
          have q1 : ∀ W, (binOp .neq 59 (.agg #[.string a.1, .string a.2.1, .int .i64 a.2.2]) (.agg #[.string b.1, .string b.2.1, .int .i64 b.2.2])).run Tryz.prog W = .ok (.bool true) W := fun W => by
            rw [aneq W, eqA_al, decide_eq_false he]; rfl
          clear he ha hb h9 h9' had hbd
          go_wp2_with fail
          go_quiet (fail)
          go_wp2
          go_ret
          exact ⟨ybool HD.out.symm, ydrew_more HQ⟩
      · obtain rfl : k = n := by omega
        go_wp2
        go_ret
        refine ⟨ybool (Eq.symm (decide_eq_true ?_)), q, HQ.out⟩
        have h3 := HT.out
        rwa [List.take_of_length_le (by rw [← HN.out]; exact Nat.le_refl _), List.take_of_length_le (by rw [← HM.out]; exact Nat.le_refl _)] at h3
  · have d1 : ((n : Int) == (m : Int)) = false := by rw [beq_eq_false_iff_ne]; omega
    have HD : Hid (sameA l l' = false) := decide_eq_false (fun e => hnm (by rw [hn, hm, e]))
    clear hnm hn hm
    go_enter Tryz.func65, Tryz.ntmps65
    go_wp2
    go_ret
    exact ⟨ybool HD.out.symm, 0, rfl⟩
/-- Is p, whose number is as it stands, just q? -/
def sameQ (p q : QL) : Bool := goodB p.2.2 && (decide (val W32 p.2.2 = val W32 q.2.2) && (sameA p.1 q.1 && sameA p.2.1 q.2.1))
theorem cmpI_b (a b : Nat) : (cmpI a b == 0) = decide (a = b) := by
  by_cases h : a = b
  · rw [cmpI_eq h, decide_eq_true h]; rfl
  · have := cmpI_ne h
    rw [decide_eq_false h]
    simpa [bne] using this
def LenQ (q : QL) : Prop := q.1.length ≤ 1000000 ∧ q.2.1.length ≤ 1000000
section
variable {w : World} {p q : QL}
set_option maxHeartbeats 8000000 in
theorem isSame_any {v1 v2 v3 u1 u2 u3 : Value} (hp : Q1 w v1 v2 v3 p) (hq : Q1 w u1 u2 u3 q) (hl : LenQ p) (hl' : LenQ q) : Calls Tryz.prog 37 #[.agg #[v1, v2, v3], .agg #[u1, u2, u3]] w (RetB w (sameQ p q)) := by
  obtain ⟨A1, c1, A2, c2, A3, c3, rfl, rfl, rfl, b1, b2, b3, b4, r1, r2, r3, r4, r5⟩ := hp.open_
  obtain ⟨D1, e1, D2, e2, D3, e3, rfl, rfl, rfl, f1, f2, f3, f4, s1, s2, s3, s4, s5⟩ := hq.open_
  obtain ⟨W1, hW1⟩ : ∃ X, X = (w.alloc (.cells #[.slice A1 p.1.length c1, .slice A2 p.2.1.length c2, .slice A3 p.2.2.length c3] 41)).alloc (.cells #[.slice D1 q.1.length e1, .slice D2 q.2.1.length e2, .slice D3 q.2.2.length e3] 41) := ⟨_, rfl⟩
  have HA : At W1 w.heap.size [.slice A1 p.1.length c1, .slice A2 p.2.1.length c2, .slice A3 p.2.2.length c3] := by rw [hW1]; exact (at_new0 _ _ _).al _
  have HC : At W1 (w.heap.size + 1) [.slice D1 q.1.length e1, .slice D2 q.2.1.length e2, .slice D3 q.2.2.length e3] := by rw [hW1]; exact at_new1 _ _ _ _
  have HB1 : Bel w W1 := by rw [hW1]; exact ((Bel.refl w).al _).al _
  obtain ⟨x1, hx1⟩ : ∃ x, goodB p.2.2 = x := ⟨_, rfl⟩
  obtain ⟨x2, hx2⟩ : ∃ x, cmpI (val W32 p.2.2) (val W32 q.2.2) = x := ⟨_, rfl⟩
  obtain ⟨x3, hx3⟩ : ∃ x, sameA p.1 q.1 = x := ⟨_, rfl⟩
  obtain ⟨x4, hx4⟩ : ∃ x, sameA p.2.1 q.2.1 = x := ⟨_, rfl⟩
  obtain ⟨z, hz⟩ : ∃ z, sameQ p q = z := ⟨_, rfl⟩
  have HZ : Hid (z = (x1 && ((x2 == 0) && (x3 && x4)))) := by unfold Hid; rw [← hz, ← hx1, ← hx2, ← hx3, ← hx4, cmpI_b]; rfl
  have C1 : Hid (∀ W, Bel w W → Calls Tryz.prog 21 #[.agg #[.slice A3 p.2.2.length c3]] W (RetB W x1)) := fun W hb =>
    (Good_any (ws := p.2.2) rfl (r4.out.below hb.hid.out |>.more hb.hid.out.size) (by omega)).mono fun e w' h => ⟨by rw [h.1, hx1], h.2⟩
  have C2 : Hid (∀ W, Bel w W → Calls Tryz.prog 39 #[.agg #[.slice A3 p.2.2.length c3], .agg #[.slice D3 q.2.2.length e3]] W (IntPost W x2)) := fun W hb => cmp_h (r3.up hb.hid) (s3.up hb.hid) hx2
  have C3 : Hid (∀ W, Bel w W → Calls Tryz.prog 65 #[.slice A1 p.1.length c1, .slice D1 q.1.length e1] W (RetB W x3)) := fun W hb => hx3 ▸ (equalA_any (r1.up hb.hid) (s1.up hb.hid) rfl rfl hl.1 hl'.1).mono fun e w' h => ⟨h.1, bel_drewN (h.2.choose_spec)⟩
  have C4 : Hid (∀ W, Bel w W → Calls Tryz.prog 65 #[.slice A2 p.2.1.length c2, .slice D2 q.2.1.length e2] W (RetB W x4)) := fun W hb => hx4 ▸ (equalA_any (r2.up hb.hid) (s2.up hb.hid) rfl rfl hl.2 hl'.2).mono fun e w' h => ⟨h.1, bel_drewN (h.2.choose_spec)⟩
  rw [hz]
  obtain ⟨n1, hn1⟩ : ∃ n, p.1.length = n := ⟨_, rfl⟩
  obtain ⟨n2, hn2⟩ : ∃ n, p.2.1.length = n := ⟨_, rfl⟩
  obtain ⟨n3, hn3⟩ : ∃ n, p.2.2.length = n := ⟨_, rfl⟩
  obtain ⟨m1, hm1⟩ : ∃ n, q.1.length = n := ⟨_, rfl⟩
  obtain ⟨m2, hm2⟩ : ∃ n, q.2.1.length = n := ⟨_, rfl⟩
  obtain ⟨m3, hm3⟩ : ∃ n, q.2.2.length = n := ⟨_, rfl⟩
  rw [hn1, hm1] at C3
  rw [hn2, hm2] at C4
  rw [hn3, hm3] at C2
  rw [hn3] at C1
  rw [hn1, hn2, hn3] at HA
  rw [hm1, hm2, hm3] at HC
  rw [hn1, hn2, hn3, hm1, hm2, hm3] at hW1 ⊢
  have HW := khide hW1
  obtain ⟨y2, hy2⟩ : ∃ y, (x2 == 0) = y := ⟨_, rfl⟩
  rw [hy2] at HZ
  clear hW1 hx1 hx2 hx3 hx4 hz hn1 hn2 hn3 hm1 hm2 hm3 r1 r2 r3 r4 r5 s1 s2 s3 s4 s5 b1 b2 b3 b4 f1 f2 f3 f4 hp hq hl hl'
  have ha_0 := HA.c0; have ha_1 := HA.c1; have ha_2 := HA.c2; have ha_l := HA.lt
  have hc_0 := HC.c0; have hc_1 := HC.c1; have hc_2 := HC.c2; have hc_l := HC.lt
  cases x1 with
  | false =>
    have HZ2 : Hid (z = false) := HZ
    go_enter Tryz.func37, Tryz.ntmps37
    go_upto_region 1 with fail
    rw [← HW.out]
    go_wp2_with (first | (go_at_call 21; (with_reducible refine (C1.out _ HB1).mono ?_); rintro e w2 ⟨rfl, hb2⟩; clear ha_0 ha_1 ha_2 ha_l hc_0 hc_1 hc_2 hc_l; replace HA := HA.up (Bel.hid hb2); replace HC := HC.up (Bel.hid hb2); have HB2 : Bel w w2 := HB1.up (Bel.hid hb2); have ha_0 := HA.c0; have ha_1 := HA.c1; have ha_2 := HA.c2; have ha_l := HA.lt; have hc_0 := HC.c0; have hc_1 := HC.c1; have hc_2 := HC.c2; have hc_l := HC.lt) | fail)
    go_ret
    exact ⟨ret_bool HZ2.out.symm, HB2⟩
  | true =>
    cases y2 with
    | false =>
      have HZ2 : Hid (z = false) := HZ
      go_enter Tryz.func37, Tryz.ntmps37
      go_upto_region 1 with fail
      rw [← HW.out]
      go_wp2_with (first | (go_at_call 21; (with_reducible refine (C1.out _ HB1).mono ?_); rintro e w2 ⟨rfl, hb2⟩; clear ha_0 ha_1 ha_2 ha_l hc_0 hc_1 hc_2 hc_l; replace HA := HA.up (Bel.hid hb2); replace HC := HC.up (Bel.hid hb2); have HB2 : Bel w w2 := HB1.up (Bel.hid hb2); have ha_0 := HA.c0; have ha_1 := HA.c1; have ha_2 := HA.c2; have ha_l := HA.lt; have hc_0 := HC.c0; have hc_1 := HC.c1; have hc_2 := HC.c2; have hc_l := HC.lt) | (go_at_call 39; (with_reducible refine (C2.out _ HB2).mono ?_); rintro e w3 ⟨rfl, hb3⟩; clear ha_0 ha_1 ha_2 ha_l hc_0 hc_1 hc_2 hc_l; replace HA := HA.up hb3; replace HC := HC.up hb3; have HB3 : Bel w w3 := HB2.up hb3; have ha_0 := HA.c0; have ha_1 := HA.c1; have ha_2 := HA.c2; have ha_l := HA.lt; have hc_0 := HC.c0; have hc_1 := HC.c1; have hc_2 := HC.c2; have hc_l := HC.lt) | fail)
      go_ret
      exact ⟨ret_bool HZ2.out.symm, HB3⟩
    | true =>
      cases x3 with
      | false =>
        have HZ2 : Hid (z = false) := HZ
        go_enter Tryz.func37, Tryz.ntmps37
        go_upto_region 1 with fail
        rw [← HW.out]
        go_wp2_with (first | (go_at_call 21; (with_reducible refine (C1.out _ HB1).mono ?_); rintro e w2 ⟨rfl, hb2⟩; clear ha_0 ha_1 ha_2 ha_l hc_0 hc_1 hc_2 hc_l; replace HA := HA.up (Bel.hid hb2); replace HC := HC.up (Bel.hid hb2); have HB2 : Bel w w2 := HB1.up (Bel.hid hb2); have ha_0 := HA.c0; have ha_1 := HA.c1; have ha_2 := HA.c2; have ha_l := HA.lt; have hc_0 := HC.c0; have hc_1 := HC.c1; have hc_2 := HC.c2; have hc_l := HC.lt) | (go_at_call 39; (with_reducible refine (C2.out _ HB2).mono ?_); rintro e w3 ⟨rfl, hb3⟩; clear ha_0 ha_1 ha_2 ha_l hc_0 hc_1 hc_2 hc_l; replace HA := HA.up hb3; replace HC := HC.up hb3; have HB3 : Bel w w3 := HB2.up hb3; have ha_0 := HA.c0; have ha_1 := HA.c1; have ha_2 := HA.c2; have ha_l := HA.lt; have hc_0 := HC.c0; have hc_1 := HC.c1; have hc_2 := HC.c2; have hc_l := HC.lt) | (go_at_call 65; (with_reducible refine (C3.out _ HB3).mono ?_); rintro e w4 ⟨rfl, hb4⟩; clear ha_0 ha_1 ha_2 ha_l hc_0 hc_1 hc_2 hc_l; replace HA := HA.up (Bel.hid hb4); replace HC := HC.up (Bel.hid hb4); have HB4 : Bel w w4 := HB3.up (Bel.hid hb4); have ha_0 := HA.c0; have ha_1 := HA.c1; have ha_2 := HA.c2; have ha_l := HA.lt; have hc_0 := HC.c0; have hc_1 := HC.c1; have hc_2 := HC.c2; have hc_l := HC.lt) | fail)
        go_ret
        exact ⟨ret_bool HZ2.out.symm, HB4⟩
      | true =>
        have HZ2 : Hid (z = x4) := HZ
        go_enter Tryz.func37, Tryz.ntmps37
        go_upto_region 1 with fail
        rw [← HW.out]
        go_wp2_with (first | (go_at_call 21; (with_reducible refine (C1.out _ HB1).mono ?_); rintro e w2 ⟨rfl, hb2⟩; clear ha_0 ha_1 ha_2 ha_l hc_0 hc_1 hc_2 hc_l; replace HA := HA.up (Bel.hid hb2); replace HC := HC.up (Bel.hid hb2); have HB2 : Bel w w2 := HB1.up (Bel.hid hb2); have ha_0 := HA.c0; have ha_1 := HA.c1; have ha_2 := HA.c2; have ha_l := HA.lt; have hc_0 := HC.c0; have hc_1 := HC.c1; have hc_2 := HC.c2; have hc_l := HC.lt) | (go_at_call 39; (with_reducible refine (C2.out _ HB2).mono ?_); rintro e w3 ⟨rfl, hb3⟩; clear ha_0 ha_1 ha_2 ha_l hc_0 hc_1 hc_2 hc_l; replace HA := HA.up hb3; replace HC := HC.up hb3; have HB3 : Bel w w3 := HB2.up hb3; have ha_0 := HA.c0; have ha_1 := HA.c1; have ha_2 := HA.c2; have ha_l := HA.lt; have hc_0 := HC.c0; have hc_1 := HC.c1; have hc_2 := HC.c2; have hc_l := HC.lt) | (go_at_call 65; (with_reducible refine (C4.out _ HB4).mono ?_); rintro e w5 ⟨rfl, hb5⟩; clear ha_0 ha_1 ha_2 ha_l hc_0 hc_1 hc_2 hc_l; replace HA := HA.up (Bel.hid hb5); replace HC := HC.up (Bel.hid hb5); have HB5 : Bel w w5 := HB4.up (Bel.hid hb5); have ha_0 := HA.c0; have ha_1 := HA.c1; have ha_2 := HA.c2; have ha_l := HA.lt; have hc_0 := HC.c0; have hc_1 := HC.c1; have hc_2 := HC.c2; have hc_l := HC.lt) | (go_at_call 65; (with_reducible refine (C3.out _ HB3).mono ?_); rintro e w4 ⟨rfl, hb4⟩; clear ha_0 ha_1 ha_2 ha_l hc_0 hc_1 hc_2 hc_l; replace HA := HA.up (Bel.hid hb4); replace HC := HC.up (Bel.hid hb4); have HB4 : Bel w w4 := HB3.up (Bel.hid hb4); have ha_0 := HA.c0; have ha_1 := HA.c1; have ha_2 := HA.c2; have ha_l := HA.lt; have hc_0 := HC.c0; have hc_1 := HC.c1; have hc_2 := HC.c2; have hc_l := HC.lt) | fail)
        go_ret
        exact ⟨ret_bool HZ2.out.symm, HB5⟩
end
/-- Alike, part by part. -/
def sameQs : List QL → List QL → Bool
  | [], [] => true
  | p :: ps, q :: qs => sameQ p q && sameQs ps qs
  | _, _ => false
theorem sameQs_len : ∀ {ps qs : List QL}, sameQs ps qs = true → ps.length = qs.length
  | [], [], _ => rfl
  | p :: ps, q :: qs, h => by
    unfold sameQs at h
    simp only [Bool.and_eq_true] at h
    rw [List.length_cons, List.length_cons, sameQs_len h.2]
theorem sameQs_take : ∀ {ps qs : List QL} {k : Nat} {p q : QL}, ps[k]? = some p → qs[k]? = some q → sameQs (ps.take (k + 1)) (qs.take (k + 1)) = (sameQs (ps.take k) (qs.take k) && sameQ p q)
  | [], _, k, p, q, h, _ => by simp at h
  | _ :: _, [], k, p, q, _, h => by simp at h
  | a :: ps, b :: qs, 0, p, q, h, h' => by
    simp at h h'
    subst h; subst h'
    simp [sameQs]
  | a :: ps, b :: qs, k + 1, p, q, h, h' => by
    have ih := sameQs_take (ps := ps) (qs := qs) (k := k) (p := p) (q := q) (by simpa using h) (by simpa using h')
    simp only [List.take_succ_cons] at ih ⊢
    unfold sameQs
    rw [ih, Bool.and_assoc]
theorem sameQs_bad : ∀ {ps qs : List QL} {k : Nat} {p q : QL}, ps[k]? = some p → qs[k]? = some q → sameQ p q = false → sameQs ps qs = false
  | [], _, k, p, q, h, _, _ => by simp at h
  | _ :: _, [], k, p, q, _, h, _ => by simp at h
  | a :: ps, b :: qs, 0, p, q, h, h', hb => by
    simp at h h'
    subst h; subst h'
    unfold sameQs
    rw [hb]; rfl
  | a :: ps, b :: qs, k + 1, p, q, h, h', hb => by
    unfold sameQs
    rw [sameQs_bad (ps := ps) (qs := qs) (k := k) (by simpa using h) (by simpa using h') hb, Bool.and_false]
set_option maxHeartbeats 8000000 in
theorem equalG_any {A B : Option Addr} {n m c d g : Nat} {l l' : List QL} {w : World} (hk : ∀ a ∈ l, ∀ b ∈ l', ∀ (W : World) (v1 v2 v3 u1 u2 u3 : Value), Q1 W v1 v2 v3 a → Q1 W u1 u2 u3 b → Calls Tryz.prog g #[.agg #[v1, v2, v3], .agg #[u1, u2, u3]] W (RetB W (sameQ a b))) (hg : ∀ args W, (callFunc g args).run Tryz.prog W = .ok (.enter g args) W) (h : Qs w A l) (h' : Qs w B l') (hn : n = l.length) (hm : m = l'.length) (hl : n ≤ 1000000) (hl' : m ≤ 1000000) :
    Calls Tryz.prog 36 #[.slice A n c, .slice B m d, .func (.func g) #[] #[]] w (RetB w (sameQs l l')) := by
  have HKK := khide hk
  clear hk
  by_cases hnm : n = m
  · subst hnm
    have HN := khide hn
    have HM := khide hm
    clear hn hm
    go_enter Tryz.func36, Tryz.ntmps36
    go_wp2
    go_loopw [17] (fun iv wr => ∃ k : Nat, k ≤ n ∧ iv = .int .i64 (k : Int) ∧ Hid (Bel w wr) ∧ Hid (sameQs (l.take k) (l'.take k) = true)) (fun iv _ => n - (intOf iv).toNat)
    case atStart => exact ⟨0, Nat.zero_le _, rfl, Bel.refl w, rfl⟩
    case round =>
      obtain ⟨k, hk, rfl, HB, HT⟩ := hrel
      by_cases hlt : k < n
      · obtain ⟨a, ha⟩ : ∃ a, l[k]? = some a := ⟨l[k]'(by rw [← HN.out]; exact hlt), List.getElem?_eq_getElem _⟩
        obtain ⟨b, hb⟩ : ∃ a, l'[k]? = some a := ⟨l'[k]'(by rw [← HM.out]; exact hlt), List.getElem?_eq_getElem _⟩
        obtain ⟨ad, v1, v2, v3, rfl, had, a0, a1, a2, HQ⟩ := (h.up HB.out.hid).at_ ha
        obtain ⟨bd, u1, u2, u3, rfl, hbd, b0, b1, b2, HQ'⟩ := (h'.up HB.out.hid).at_ hb
        have CS : Hid (∀ W : World, Q1 W v1 v2 v3 a → Q1 W u1 u2 u3 b → Calls Tryz.prog g #[.agg #[v1, v2, v3], .agg #[u1, u2, u3]] W (RetB W (sameQ a b))) := fun W h1 h2 => HKK.out a (List.mem_of_getElem? ha) b (List.mem_of_getElem? hb) W v1 v2 v3 u1 u2 u3 h1 h2
        obtain ⟨x, hx⟩ : ∃ x, sameQ a b = x := ⟨_, rfl⟩
        have HT2 : Hid (sameQs (l.take (k + 1)) (l'.take (k + 1)) = x) := by unfold Hid; rw [sameQs_take ha hb, HT.out, hx]; rfl
        have HT3 : Hid (x = false → sameQs l l' = false) := fun e => sameQs_bad ha hb (hx.trans e)
        rw [hx] at CS
        have k0 : (0 : Int) ≤ (k : Int) := by omega
        have k1 : (k : Int) < (n : Int) := by omega
        obtain ⟨A1, c1, A2, c2, A3, c3, rfl, rfl, rfl, -⟩ := HQ.open_
        obtain ⟨D1, d1, D2, d2, D3, d3, rfl, rfl, rfl, -⟩ := HQ'.open_
        replace b0 : ∀ o, (wr.alloc o).cell? (bd.add (k * 3)) = some (.slice D1 b.1.length d1) := fun o => (World.cell?_alloc_lt _ _ _ (by rw [yblock_add]; exact hbd)).trans b0
        replace b1 : ∀ o, (wr.alloc o).cell? ⟨(bd.add (k * 3)).block, (bd.add (k * 3)).off + 1, none⟩ = some (.slice D2 b.2.1.length d2) := fun o => (World.cell?_alloc_lt _ _ (⟨(bd.add (k * 3)).block, (bd.add (k * 3)).off + 1, none⟩ : Addr) (by show (bd.add (k * 3)).block < _; rw [yblock_add]; exact hbd)).trans b1
        replace b2 : ∀ o, (wr.alloc o).cell? ⟨(bd.add (k * 3)).block, (bd.add (k * 3)).off + 2, none⟩ = some (.slice D3 b.2.2.length d3) := fun o => (World.cell?_alloc_lt _ _ (⟨(bd.add (k * 3)).block, (bd.add (k * 3)).off + 2, none⟩ : Addr) (by show (bd.add (k * 3)).block < _; rw [yblock_add]; exact hbd)).trans b2
        clear ha hb hx
        cases x with
        | true =>
          go_wp2_with (first | (go_at_fn g; (with_reducible refine (CS.out _ ((HQ.al _).al _) ((HQ'.al _).al _)).mono ?_); rintro e w2 ⟨rfl, hb2⟩) | fail)
          go_roundw
          case rel => exact ⟨k + 1, by omega, by go_num, ((HB.out.al _).al _).up hb2.hid, HT2⟩
          case measure => simp [intOf]; omega
        | false =>
          have HD : Hid (sameQs l l' = false) := HT3.out rfl
          clear HT3
          go_wp2_with (first | (go_at_fn g; (with_reducible refine (CS.out _ ((HQ.al _).al _) ((HQ'.al _).al _)).mono ?_); rintro e w2 ⟨rfl, hb2⟩) | fail)
          go_ret
          exact ⟨ret_bool HD.out.symm, ((HB.out.al _).al _).up hb2.hid⟩
      · obtain rfl : k = n := by omega
        go_wp2
        go_ret
        refine ⟨ret_bool ?_, HB.out⟩
        have h3 := HT.out
        rw [List.take_of_length_le (by rw [← HN.out]; exact Nat.le_refl _), List.take_of_length_le (by rw [← HM.out]; exact Nat.le_refl _)] at h3
        exact h3.symm
  · have d1 : ((n : Int) == (m : Int)) = false := by rw [beq_eq_false_iff_ne]; omega
    have HD : Hid (sameQs l l' = false) := by
      cases e : sameQs l l' with
      | false => rfl
      | true => exact absurd (by rw [hn, hm, sameQs_len e]) hnm
    clear hnm hn hm
    go_enter Tryz.func36, Tryz.ntmps36
    go_wp2
    go_ret
    exact ⟨ret_bool HD.out.symm, Bel.refl w⟩
theorem equalQ_any {A B : Option Addr} {n m c d : Nat} {l l' : List QL} {w : World} (h : Qs w A l) (h' : Qs w B l') (hn : n = l.length) (hm : m = l'.length) (hl : n ≤ 1000000) (hl' : m ≤ 1000000) (hf : ∀ q ∈ l, LenQ q) (hf' : ∀ q ∈ l', LenQ q) :
    Calls Tryz.prog 36 #[.slice A n c, .slice B m d, .func (.func 37) #[] #[]] w (RetB w (sameQs l l')) :=
  equalG_any (fun a ha b hb W _ _ _ _ _ _ h1 h2 => isSame_any h1 h2 (hf a ha) (hf' b hb)) (enters_of Tryz.func37 (by kernel_rfl) rfl) h h' hn hm hl hl'
end Go.Proofs.YthdpojkeceoiiaaGreatDoor
end

section
/- Sizes of units' texts; what Good says. No conditions. -/
open Go.RowKit
set_option maxRecDepth 100000
namespace Go.Proofs.YthdpojkeceoiiaaGreatDoor
theorem glue_bound {m : Nat} : ∀ (ls : List (List UInt8)), (∀ x ∈ ls, x.length ≤ m) → (glue (45 : UInt8) ls).length ≤ ls.length * (m + 1)
  | [], _ => Nat.zero_le _
  | [x], h => by
    have := h x (by simp)
    show x.length ≤ 1 * (m + 1)
    omega
  | x :: y :: ls, h => by
    have h1 := glue_bound (y :: ls) (fun z hz => h z (by simp [hz]))
    have h2 := h x (by simp)
    rw [glue_cons x (by simp), List.length_append, List.length_cons]
    rw [List.length_cons (a := x), Nat.add_mul]
    omega
theorem showB_size (p n : ByteArray) (k : Int) : (showB p n k).size ≤ p.size + n.size + 10 := by
  unfold showB
  split
  · exact Nat.zero_le _
  · split
    · rw [ByteArray.size_append]; omega
    · rename_i h1 h2
      have h3 := pwB_size k.toNat (by omega) (by omega)
      have h4 : (joinS [pwB k.toNat, p ++ n]).size = (glue 45 ([pwB k.toNat, p ++ n].map (·.data.toList))).length := by
        unfold joinS
        rw [Lib.size_eq]
      rw [h4, glue_two, ByteArray.size_append]
      omega
theorem decL_short {m : Nat} (h : m < W32 ^ 3) : (nuT m).size ≤ 30 := by
  have := dt_le (m := m) (k := 30) (Nat.lt_trans h (by decide)) (by decide)
  rw [Lib.size_eq]
  exact this
/-- Parts whose text is not long. -/
def SmallL (l : List AL) (m : Nat) : Prop := ∀ a ∈ l, a.1.size + a.2.1.size ≤ m
theorem showsA_small {l : List AL} {m : Nat} (h : SmallL l m) : ∀ x ∈ showsA l, x.size ≤ m + 10 := fun x hx => by
  unfold showsA at hx
  obtain ⟨a, ha, rfl⟩ := List.mem_map.1 hx
  have h1 := showB_size a.1 a.2.1 a.2.2
  have h2 := h a ha
  show (showB a.1 a.2.1 a.2.2).size ≤ m + 10
  omega
theorem partW_small {p : PL} {m k : Nat} (h : SmallL p.1 m) (h' : SmallL p.2.1 m) (ht : p.2.2.size ≤ m + 10) (hl : p.1.length + p.2.1.length ≤ k) : (∀ x ∈ partW p, x.size ≤ m + 10) ∧ (partW p).length ≤ k + 2 := by
  have h1 := showsA_small h
  have h2 := showsA_small h'
  have h3 : perB.size ≤ m + 10 := by have : perB.size = 3 := rfl; omega
  have l1 := shows_len p.1
  have l2 := shows_len p.2.1
  unfold partW
  split
  · exact ⟨h1, by omega⟩
  · split
    · refine ⟨fun x hx => ?_, by simp; omega⟩
      simp only [List.mem_append, List.mem_singleton] at hx
      rcases hx with (hx | rfl) | hx
      · exact h1 x hx
      · exact h3
      · exact h2 x hx
    · refine ⟨fun x hx => ?_, by simp; omega⟩
      simp only [List.mem_append, List.mem_singleton] at hx
      rcases hx with ((hx | rfl) | rfl) | hx
      · exact h1 x hx
      · exact h3
      · exact ht
      · exact h2 x hx
theorem partS_small {p : PL} {m k : Nat} (h : SmallL p.1 m) (h' : SmallL p.2.1 m) (ht : p.2.2.size ≤ m + 10) (hl : p.1.length + p.2.1.length ≤ k) : (glue 45 ((partW p).map (·.data.toList))).length ≤ (k + 2) * (m + 11) := by
  obtain ⟨h1, h2⟩ := partW_small h h' ht hl
  have h3 := glue_bound (m := m + 10) ((partW p).map (·.data.toList)) (fun x hx => by
    obtain ⟨y, hy, rfl⟩ := List.mem_map.1 hx
    have := h1 y hy
    rw [Lib.size_eq] at this
    exact this)
  rw [List.length_map] at h3
  exact Nat.le_trans h3 (Nat.mul_le_mul_right _ h2)
theorem unitN_small {ps : List PL} {m : Nat} (h : ∀ p ∈ ps, (partS p).size ≤ m) : ∀ k, (unitN ps k).size ≤ k * (m + 5)
  | 0 => Nat.zero_le _
  | k + 1 => by
    have ih := unitN_small h k
    have h0 : ∀ x : ByteArray, x.size ≤ m → ((if 0 < k then unitN ps k ++ ⟨#[45, 97, 110, 100, 45]⟩ else unitN ps k) ++ x).size ≤ (k + 1) * (m + 5) := fun x hx => by
      rw [ByteArray.size_append, Nat.add_mul]
      by_cases h0 : 0 < k
      · rw [if_pos h0, ByteArray.size_append]
        have h2 : (⟨#[45, 97, 110, 100, 45]⟩ : ByteArray).size = 5 := rfl
        omega
      · rw [if_neg h0]; omega
    cases e : ps[k]? with
    | none =>
      have e2 : unitN ps (k + 1) = (if 0 < k then unitN ps k ++ ⟨#[45, 97, 110, 100, 45]⟩ else unitN ps k) ++ ⟨#[]⟩ := by rw [unitN, e]
      rw [e2]
      exact h0 _ (Nat.zero_le _)
    | some p =>
      have e2 : unitN ps (k + 1) = (if 0 < k then unitN ps k ++ ⟨#[45, 97, 110, 100, 45]⟩ else unitN ps k) ++ partS p := by rw [unitN, e]
      rw [e2]
      exact h0 _ (h p (List.mem_of_getElem? e))
theorem partS_eq (p : PL) : (partS p).size = (glue 45 ((partW p).map (·.data.toList))).length := by
  unfold partS joinS
  rw [Lib.size_eq]
/-- A part that is not too great has a text that fits. -/
theorem great_fit {q : QL} (hg : greatQ q = false) (hw : Good32 q.2.2) : FitP (toP q) ∧ (partS (toP q)).size ≤ 2670 := by
  unfold greatQ at hg
  simp only [Bool.or_eq_false_iff, decide_eq_false_iff_not] at hg
  obtain ⟨g1, g2, g3, g4⟩ := hg
  have s1 : SmallL q.1 256 := fun a ha => by
    have := List.any_eq_false.1 g3 a ha
    unfold longA at this
    simp only [decide_eq_true_eq] at this
    omega
  have s2 : SmallL q.2.1 256 := fun a ha => by
    have := List.any_eq_false.1 g4 a ha
    unfold longA at this
    simp only [decide_eq_true_eq] at this
    omega
  have hv : val W32 q.2.2 < W32 ^ 3 := Nat.lt_of_lt_of_le (val_lt _ hw) (Nat.pow_le_pow_right (by decide) (by omega))
  have ht : (toP q).2.2.size ≤ 256 + 10 := by
    have := decL_short hv
    show (nuT (val W32 q.2.2)).size ≤ _
    omega
  have hs := partS_small (p := toP q) (m := 256) (k := 8) s1 s2 ht (by show q.1.length + q.2.1.length ≤ 8; omega)
  refine ⟨⟨⟨?_, ?_⟩, ⟨?_, ?_⟩, by omega⟩, by rw [partS_eq]; omega⟩
  · show q.1.length ≤ 1000; omega
  · intro a ha; have := s1 a ha; omega
  · show q.2.1.length ≤ 1000; omega
  · intro a ha; have := s2 a ha; omega
/-- May the unit of these parts be? -/
def goodU (names ps : List ByteArray) (qs : List QL) : Bool := decide (qs.length ≤ 4) && (!(qs.any greatQ) && (match unitD names ps (unitS (qs.map toP)) with
  | .error _ => false
  | .ok r => sameQs qs (r.map ofP)))
theorem Qs.putg {W : World} {g p i : Nat} {qs : List QL} {A' : Option Addr} {n c : Nat} (h : Qs W (some ⟨g, 0, none⟩) qs) (hne : p ≠ g) (hc : W.cell? ⟨p, i, none⟩ = some (.slice A' n c)) (u : Value) : Qs (W.setCell ⟨p, i, none⟩ u) (some ⟨g, 0, none⟩) qs := fun h0 => by
  obtain ⟨ad, e, hb, hx⟩ := h.out h0
  injection e with e
  subst e
  have hz : (W.setCell ⟨p, i, none⟩ u).heap.size = W.heap.size := by simp [World.setCell]
  refine ⟨_, rfl, by rw [hz]; exact hb, fun j q hj => ?_⟩
  obtain ⟨v1, v2, v3, k1, k2, k3, k4⟩ := hx j q hj
  have hf : ∀ j, (W.setCell ⟨p, i, none⟩ u).cell? ((⟨g, 0, none⟩ : Addr).add j) = W.cell? ((⟨g, 0, none⟩ : Addr).add j) := fun j => World.cell?_setCell_far _ _ _ _ (by rw [yblock_add]; exact hne)
  have h4 : Q1 W v1 v2 v3 q := k4
  have h5 := (h4.setn hc u).out
  exact ⟨v1, v2, v3, (hf _).trans k1, (hf _).trans k2, (hf _).trans k3, h5⟩
end Go.Proofs.YthdpojkeceoiiaaGreatDoor
end

section
/- unit.Good. Conditions: lists that fit. -/
open Go.RowKit
set_option maxRecDepth 100000
namespace Go.Proofs.YthdpojkeceoiiaaGreatDoor
theorem Bel.putq {w W : World} (h : Bel w W) {p i : Nat} (hp : w.heap.size ≤ p) (u : Value) : Bel w (W.setCell ⟨p, i, none⟩ u) := Below.setCell h hp u
theorem At.putq {W : World} {p : Nat} {v : Value} (h : At W p [v]) (u : Value) : At (W.setCell ⟨p, 0, none⟩ u) p [u] := h.put (i := 0) (by simp) u
section
variable {A B C : Option Addr} {n c m d z e : Nat} {qs : List QL} {names ps : List ByteArray} {w : World}
set_option maxHeartbeats 2000000 in
theorem ugood_many (hz : 4 < z) : Calls Tryz.prog 13 #[.agg #[.slice A n c, .slice B m d], .agg #[.slice C z e]] w (RetB w false) := by
  obtain ⟨W1, hW1⟩ : ∃ X, X = (w.alloc (.cells #[.slice A n c, .slice B m d] 31)).alloc (.cells #[.slice C z e] 26) := ⟨_, rfl⟩
  have HK : At W1 w.heap.size [.slice A n c, .slice B m d] := by rw [hW1]; exact (at_new0 _ _ _).al _
  have HU : At W1 (w.heap.size + 1) [.slice C z e] := by rw [hW1]; exact at_new1 _ _ _ _
  have HB : Bel w W1 := by rw [hW1]; exact ((Bel.refl w).al _).al _
  have HW := khide hW1
  have d0 : decide ((4 : Int) < (z : Int)) = true := decide_eq_true (by omega)
  have d1 : decide (4 < z) = true := decide_eq_true hz
  have hu_0 := HU.c0; have hu_l := HU.lt
  clear hW1
  go_enter Tryz.func13, Tryz.ntmps13
  go_upto_region 1 with fail
  rw [← HW.out]
  go_wp2
  go_ret
  exact ⟨rfl, HB⟩
set_option maxHeartbeats 2000000 in
theorem ugood_great (h : Qs w C qs) (hz1 : z = qs.length) (hz : z ≤ 4) (hf : ∀ q ∈ qs, FitA q.1 ∧ FitA q.2.1) (hgr : qs.any greatQ = true) : Calls Tryz.prog 13 #[.agg #[.slice A n c, .slice B m d], .agg #[.slice C z e]] w (RetB w false) := by
  obtain ⟨W1, hW1⟩ : ∃ X, X = (w.alloc (.cells #[.slice A n c, .slice B m d] 31)).alloc (.cells #[.slice C z e] 26) := ⟨_, rfl⟩
  have HK : At W1 w.heap.size [.slice A n c, .slice B m d] := by rw [hW1]; exact (at_new0 _ _ _).al _
  have HU : At W1 (w.heap.size + 1) [.slice C z e] := by rw [hW1]; exact at_new1 _ _ _ _
  have HB : Bel w W1 := by rw [hW1]; exact ((Bel.refl w).al _).al _
  have HW := khide hW1
  have CG : Hid (∀ W, Bel w W → Calls Tryz.prog 34 #[.slice C z e, .func (.func 35) #[] #[]] W (RetB W true)) := fun W hb => hgr ▸ containsQ_any (h.up hb.hid) hz1 (by omega) (fun a ha W v1 v2 v3 hq => great_any hq (hf a ha).1 (hf a ha).2) (enters_of Tryz.func35 (by kernel_rfl) rfl)
  have d0 : decide ((4 : Int) < (z : Int)) = false := decide_eq_false (by omega)
  have d1 : decide (4 < z) = false := decide_eq_false (by omega)
  have d2 : ¬ 4 < z := by omega
  have hu_0 := HU.c0; have hu_l := HU.lt
  clear hW1 h hz1 hf hgr
  go_enter Tryz.func13, Tryz.ntmps13
  go_upto_region 1 with fail
  rw [← HW.out]
  go_wp2_with (first | (go_at_call 34; (with_reducible refine (CG.out _ HB).mono ?_); rintro e w2 ⟨rfl, hb2⟩) | fail)
  go_ret
  exact ⟨rfl, HB.up hb2.hid⟩
set_option maxHeartbeats 8000000 in
theorem ugood_bad {v : Int} (hv : v = 11 ∨ v = 2) (h : Qs w C qs) (hz1 : z = qs.length) (hz : z ≤ 4) (hf : ∀ q ∈ qs, FitA q.1 ∧ FitA q.2.1) (hgr : qs.any greatQ = false) {s : ByteArray}
    (hS : ∀ W, Bel w W → Calls Tryz.prog 11 #[.agg #[.slice C z e]] W (StrR W s)) (hP : ∀ W, Bel w W → Calls Tryz.prog 8 #[.agg #[.slice A n c, .slice B m d], .string s] W (UnitR W (.error v))) :
    Calls Tryz.prog 13 #[.agg #[.slice A n c, .slice B m d], .agg #[.slice C z e]] w (RetB w false) := by
  obtain ⟨W1, hW1⟩ : ∃ X, X = (w.alloc (.cells #[.slice A n c, .slice B m d] 31)).alloc (.cells #[.slice C z e] 26) := ⟨_, rfl⟩
  have HK : At W1 w.heap.size [.slice A n c, .slice B m d] := by rw [hW1]; exact (at_new0 _ _ _).al _
  have HU : At W1 (w.heap.size + 1) [.slice C z e] := by rw [hW1]; exact at_new1 _ _ _ _
  have HB : Bel w W1 := by rw [hW1]; exact ((Bel.refl w).al _).al _
  have HW := khide hW1
  have CG : Hid (∀ W, Bel w W → Calls Tryz.prog 34 #[.slice C z e, .func (.func 35) #[] #[]] W (RetB W false)) := fun W hb => hgr ▸ containsQ_any (h.up hb.hid) hz1 (by omega) (fun a ha W v1 v2 v3 hq => great_any hq (hf a ha).1 (hf a ha).2) (enters_of Tryz.func35 (by kernel_rfl) rfl)
  have d0 : decide ((4 : Int) < (z : Int)) = false := decide_eq_false (by omega)
  have d1 : decide (4 < z) = false := decide_eq_false (by omega)
  have d2 : ¬ 4 < z := by omega
  have CS : Hid (∀ W, Bel w W → Calls Tryz.prog 11 #[.agg #[.slice C z e]] W (StrR W s)) := hS
  have CP : Hid (∀ W, Bel w W → Calls Tryz.prog 8 #[.agg #[.slice A n c, .slice B m d], .string s] W (UnitR W (.error v))) := hP
  replace CP : Hid (∀ W, Bel w W → Calls Tryz.prog 8 #[.agg #[.slice A n c, .slice B m d], .string s] W (fun e w' => e = .returned (.tuple #[.agg #[.slice none 0 0], .int .i64 v]) ∧ Bel W w')) := CP
  have q0 : (v == 0) = false := by rcases hv with rfl | rfl <;> rfl
  have q1 : (v != 0) = true := by rcases hv with rfl | rfl <;> rfl
  clear hv
  have hu_0 := HU.c0; have hu_l := HU.lt
  clear hW1 h hz1 hf hgr hS hP
  go_enter Tryz.func13, Tryz.ntmps13
  go_upto_region 1 with fail
  rw [← HW.out]
  go_upto_region 3 with (first | (go_at_call 34; (with_reducible refine (CG.out _ HB).mono ?_); rintro e w2 ⟨rfl, hb2⟩; replace HK := HK.up hb2.hid; replace HU := HU.up hb2.hid; replace HB := HB.up hb2.hid) | fail)
  clear hu_0 hu_l HW W1 hb2
  go_cut [5, 6] from 16 to 22 (fun o v9 w' => ∃ pb, o = .pointer (some ⟨pb, 0, none⟩) ∧ v9 = .int .i64 v ∧ At w' pb [.slice none 0 0] ∧ Bel w2 w')
  case first =>
    have HW := Bel.refl w2
    have lza := HK.lt
    have lzb := HU.lt
    go_region_held3 (fun w' => w'.cell? ⟨w.heap.size, 0, none⟩ = some (.slice A n c) ∧ w'.cell? ⟨w.heap.size, 1, none⟩ = some (.slice B m d) ∧ w'.cell? ⟨w.heap.size + 1, 0, none⟩ = some (.slice C z e))
      (refine ⟨(?_ : At _ w.heap.size [.slice A n c, .slice B m d]).c0, (?_ : At _ w.heap.size [.slice A n c, .slice B m d]).c1, (?_ : At _ (w.heap.size + 1) [.slice C z e]).c0⟩ <;> (repeat (first | with_reducible exact HK | with_reducible exact HU | (with_reducible refine At.dr ?_) | (with_reducible refine At.al ?_ _) | (with_reducible refine At.far ?_ (by omega) _))))
      (first | (go_at_call 11; (with_reducible refine (CS.out _ HB.dr).mono ?_); rintro e w3 ⟨rfl, hbk⟩; (with_reducible (replace HB := HB.dr.up hbk; replace HW := HW.dr.up hbk; replace HK := HK.dr.up hbk; replace HU := HU.dr.up hbk)); have lz0 := HK.lt; have lz1 := HU.lt; have zs1 := Below.size HW; (try have lz9 := HP0.lt)) | (go_at_call 11; (with_reducible refine (CS.out _ (HB.al _).dr).mono ?_); rintro e w3 ⟨rfl, hbk⟩; (with_reducible (have HP0 := At.up (at_new0 _ [.slice none 0 0] _).dr hbk; replace HB := (HB.al _).dr.up hbk; replace HW := (HW.al _).dr.up hbk; replace HK := (HK.al _).dr.up hbk; replace HU := (HU.al _).dr.up hbk)); have lz0 := HK.lt; have lz1 := HU.lt; have zs1 := Below.size HW; (try have lz9 := HP0.lt)) | (go_at_call 8; (with_reducible refine (CP.out _ HB).mono ?_); rintro e w4 ⟨rfl, hbk⟩; replace hbk := Bel.hid hbk; (with_reducible (replace HB := HB.up hbk; replace HW := HW.up hbk; replace HK := HK.up hbk; replace HU := HU.up hbk)); (try (with_reducible replace HP0 := HP0.up hbk)); (try have hp_0 := HP0.c0); (try have hp_f0 := HP0.f0); (try have hp_l := HP0.lt); have lz3 := HK.lt; have lz4 := HU.lt; have zs2 := Below.size HW) | (go_at_call 8; (with_reducible refine (CP.out _ (HB.al _)).mono ?_); rintro e w4 ⟨rfl, hbk⟩; replace hbk := Bel.hid hbk; (with_reducible (have HP0 := At.up (at_new0 _ [.slice none 0 0] _) hbk; replace HB := (HB.al _).up hbk; replace HW := (HW.al _).up hbk; replace HK := (HK.al _).up hbk; replace HU := (HU.al _).up hbk)); (try (with_reducible replace HP0 := (HP0.al _).up hbk)); (try have hp_0 := HP0.c0); (try have hp_f0 := HP0.f0); (try have hp_l := HP0.lt); have lz3 := HK.lt; have lz4 := HU.lt; have zs2 := Below.size HW) | fail)
    all_goals
      go_wp2_with fail
      go_meet
      case rel => refine ⟨_, rfl, rfl, ?_, ?_⟩ <;> (repeat (first | with_reducible exact HW | with_reducible exact HP0 | with_reducible exact at_new0 _ _ _ | (with_reducible refine At.dr ?_) | (with_reducible refine At.putq (v := .slice none 0 0) ?_ _) | (with_reducible refine At.al ?_ _) | (with_reducible refine Bel.dr ?_) | (with_reducible refine Bel.al ?_ _) | (with_reducible refine Bel.putq ?_ (by omega) _)))
  case rest =>
    obtain ⟨pb, rfl, rfl, HP, hW⟩ := hcut
    replace HU := HU.up hW.hid
    replace HB := HB.up hW.hid
    clear hW HK
    have hu_0 := HU.c0; have hu_l := HU.lt; have hp_0 := HP.c0; have hp_l := HP.lt
    go_wp2_with fail
    go_ret
    exact ⟨rfl, HB⟩
set_option maxHeartbeats 8000000 in
theorem ugood_ok {r : List PL} (h : Qs w C qs) (hz1 : z = qs.length) (hz : z ≤ 4) (hf : ∀ q ∈ qs, FitA q.1 ∧ FitA q.2.1) (hgr : qs.any greatQ = false) {s : ByteArray}
    (hS : ∀ W, Bel w W → Calls Tryz.prog 11 #[.agg #[.slice C z e]] W (StrR W s)) (hP : ∀ W, Bel w W → Calls Tryz.prog 8 #[.agg #[.slice A n c, .slice B m d], .string s] W (UnitR W (.ok r))) (hr : r.length ≤ 4) (hl : ∀ q ∈ qs, LenQ q) (hl2 : ∀ q ∈ r.map ofP, LenQ q) :
    Calls Tryz.prog 13 #[.agg #[.slice A n c, .slice B m d], .agg #[.slice C z e]] w (RetB w (sameQs qs (r.map ofP))) := by
  obtain ⟨W1, hW1⟩ : ∃ X, X = (w.alloc (.cells #[.slice A n c, .slice B m d] 31)).alloc (.cells #[.slice C z e] 26) := ⟨_, rfl⟩
  have HK : At W1 w.heap.size [.slice A n c, .slice B m d] := by rw [hW1]; exact (at_new0 _ _ _).al _
  have HU : At W1 (w.heap.size + 1) [.slice C z e] := by rw [hW1]; exact at_new1 _ _ _ _
  have HB : Bel w W1 := by rw [hW1]; exact ((Bel.refl w).al _).al _
  have HW := khide hW1
  have CG : Hid (∀ W, Bel w W → Calls Tryz.prog 34 #[.slice C z e, .func (.func 35) #[] #[]] W (RetB W false)) := fun W hb => hgr ▸ containsQ_any (h.up hb.hid) hz1 (by omega) (fun a ha W v1 v2 v3 hq => great_any hq (hf a ha).1 (hf a ha).2) (enters_of Tryz.func35 (by kernel_rfl) rfl)
  have d0 : decide ((4 : Int) < (z : Int)) = false := decide_eq_false (by omega)
  have d1 : decide (4 < z) = false := decide_eq_false (by omega)
  have d2 : ¬ 4 < z := by omega
  have CS : Hid (∀ W, Bel w W → Calls Tryz.prog 11 #[.agg #[.slice C z e]] W (StrR W s)) := hS
  have CP : Hid (∀ W, Bel w W → Calls Tryz.prog 8 #[.agg #[.slice A n c, .slice B m d], .string s] W (UnitR W (.ok r))) := hP
  obtain ⟨y, hy⟩ : ∃ y, r.length = y := ⟨_, rfl⟩
  obtain ⟨x, hx⟩ : ∃ x, sameQs qs (r.map ofP) = x := ⟨_, rfl⟩
  have CE : Hid (∀ (W : World) (g' c' : Nat), Bel w W → Qs W (some ⟨g', 0, none⟩) (r.map ofP) → Calls Tryz.prog 36 #[.slice C z e, .slice (some ⟨g', 0, none⟩) y c', .func (.func 37) #[] #[]] W (RetB W x)) := fun W g' c' hb hq =>
    hx ▸ equalQ_any (h.up hb.hid) hq hz1 (by rw [← hy, List.length_map]) (by omega) (by omega) hl hl2
  replace CP : Hid (∀ W, Bel w W → Calls Tryz.prog 8 #[.agg #[.slice A n c, .slice B m d], .string s] W (fun e w' => ∃ g c, e = .returned (.tuple #[.agg #[.slice (some ⟨g, 0, none⟩) y c], .int .i64 0]) ∧ Hid (W.heap.size ≤ g) ∧ Qs w' (some ⟨g, 0, none⟩) (r.map ofP) ∧ Bel W w')) := fun W hb => (CP.out W hb).mono fun e w' h => by
    obtain ⟨g, c, h1, h2, h3, h4, h5⟩ := h
    rw [hy] at h1
    exact ⟨g, c, h1, h3, h4, h5⟩
  rw [hx]
  clear hx hy hl hl2
  have hu_0 := HU.c0; have hu_l := HU.lt
  clear hW1 h hz1 hf hgr hS hP
  go_enter Tryz.func13, Tryz.ntmps13
  go_upto_region 1 with fail
  rw [← HW.out]
  go_upto_region 3 with (first | (go_at_call 34; (with_reducible refine (CG.out _ HB).mono ?_); rintro e w2 ⟨rfl, hb2⟩; replace HK := HK.up hb2.hid; replace HU := HU.up hb2.hid; replace HB := HB.up hb2.hid) | fail)
  clear hu_0 hu_l HW W1 hb2
  go_cut [5, 6] from 16 to 22 (fun o v w' => ∃ pb g9 c9, o = .pointer (some ⟨pb, 0, none⟩) ∧ v = .int .i64 0 ∧ At w' pb [.slice (some ⟨g9, 0, none⟩) y c9] ∧ Qs w' (some ⟨g9, 0, none⟩) (r.map ofP) ∧ Bel w2 w')
  case first =>
    have HW := Bel.refl w2
    have lza := HK.lt
    have lzb := HU.lt
    go_region_held3 (fun w' => w'.cell? ⟨w.heap.size, 0, none⟩ = some (.slice A n c) ∧ w'.cell? ⟨w.heap.size, 1, none⟩ = some (.slice B m d) ∧ w'.cell? ⟨w.heap.size + 1, 0, none⟩ = some (.slice C z e))
      (refine ⟨(?_ : At _ w.heap.size [.slice A n c, .slice B m d]).c0, (?_ : At _ w.heap.size [.slice A n c, .slice B m d]).c1, (?_ : At _ (w.heap.size + 1) [.slice C z e]).c0⟩ <;> (repeat (first | with_reducible exact HK | with_reducible exact HU | (with_reducible refine At.dr ?_) | (with_reducible refine At.al ?_ _) | (with_reducible refine At.far ?_ (by omega) _))))
      (first | (go_at_call 11; (with_reducible refine (CS.out _ HB.dr).mono ?_); rintro e w3 ⟨rfl, hbk⟩; (with_reducible (replace HB := HB.dr.up hbk; replace HW := HW.dr.up hbk; replace HK := HK.dr.up hbk; replace HU := HU.dr.up hbk)); have lz0 := HK.lt; have lz1 := HU.lt; have zs1 := Below.size HW; (try have lz9 := HP0.lt)) | (go_at_call 11; (with_reducible refine (CS.out _ (HB.al _).dr).mono ?_); rintro e w3 ⟨rfl, hbk⟩; (with_reducible (have HP0 := At.up (at_new0 _ [.slice none 0 0] _).dr hbk; replace HB := (HB.al _).dr.up hbk; replace HW := (HW.al _).dr.up hbk; replace HK := (HK.al _).dr.up hbk; replace HU := (HU.al _).dr.up hbk)); have lz0 := HK.lt; have lz1 := HU.lt; have zs1 := Below.size HW; (try have lz9 := HP0.lt)) | (first | (go_at_call 8; (with_reducible refine (CP.out _ HB).mono ?_); rintro e w4 ⟨g9, c9, rfl, hg9, HQ9, hbk⟩; replace hbk := Bel.hid hbk; (with_reducible (replace HB := HB.up hbk; replace HW := HW.up hbk; replace HK := HK.up hbk; replace HU := HU.up hbk)); (try (with_reducible replace HP0 := HP0.up hbk)); (try have hp_0 := HP0.c0); (try have hp_f0 := HP0.f0); (try have hp_l := HP0.lt); have hg8 := hg9.out; (try simp at hg8); have lz3 := HK.lt; have lz4 := HU.lt; have zs2 := Below.size HW) | fail) | (first | (go_at_call 8; (with_reducible refine (CP.out _ (HB.al _)).mono ?_); rintro e w4 ⟨g9, c9, rfl, hg9, HQ9, hbk⟩; replace hbk := Bel.hid hbk; (with_reducible (have HP0 := At.up (at_new0 _ [.slice none 0 0] _) hbk; replace HB := (HB.al _).up hbk; replace HW := (HW.al _).up hbk; replace HK := (HK.al _).up hbk; replace HU := (HU.al _).up hbk)); (try (with_reducible replace HP0 := (HP0.al _).up hbk)); (try have hp_0 := HP0.c0); (try have hp_f0 := HP0.f0); (try have hp_l := HP0.lt); have hg8 := hg9.out; (try simp at hg8); have lz3 := HK.lt; have lz4 := HU.lt; have zs2 := Below.size HW) | fail) | fail)
    all_goals
      go_wp2_with fail
      go_meet
      case rel => refine ⟨_, g9, c9, rfl, rfl, ?_, ?_, ?_⟩ <;> (repeat (first | with_reducible exact HW | with_reducible exact HP0 | with_reducible exact at_new0 _ _ _ | with_reducible exact HQ9 | (with_reducible refine At.dr ?_) | (with_reducible refine At.putq (v := .slice none 0 0) ?_ _) | (with_reducible refine At.al ?_ _) | (with_reducible refine Bel.dr ?_) | (with_reducible refine Bel.al ?_ _) | (with_reducible refine Bel.putq ?_ (by omega) _) | (with_reducible refine Qs.al ?_ _) | (with_reducible refine Qs.dr ?_) | (with_reducible refine Qs.putg ?_ (by omega) HP0.c0 _)))
  case rest =>
    obtain ⟨pb, g9, c9, rfl, rfl, HP, HQ9, hW⟩ := hcut
    replace HU := HU.up hW.hid
    replace HB := HB.up hW.hid
    clear hW HK
    have hu_0 := HU.c0; have hu_l := HU.lt; have hp_0 := HP.c0; have hp_l := HP.lt
    go_wp2_with (first | (go_at_call 36; (with_reducible refine (CE.out _ _ _ HB HQ9).mono ?_); rintro e w5 ⟨rfl, hb5⟩) | fail)
    go_ret
    exact ⟨rfl, HB.up hb5.hid⟩
end
end Go.Proofs.YthdpojkeceoiiaaGreatDoor
end
