/- RowsSays: the walk. No conditions. -/
import Derived.Test.YtbmpbcnhgnmekaaDoorEo
import Derived.Test.YtbmpbcnhgnmekaaDoorEt
import Derived.Test.YtbmpbcnhgnmekaaDoorEu
open Go.RowKit
set_option maxRecDepth 100000
namespace Go.Proofs.YtbmpbcnhgnmekaaDoor
theorem says_long {t kind : ByteArray} (w : World) (h : ¬ t.size ≤ 2000) : Calls Tryd.prog 4 #[.string t, .string kind] w (TextsR w true) := by
  have d : decide ((2000 : Int) < (t.size : Int)) = true := decide_eq_true (by omega)
  clear h
  go_enter Tryd.func4, Tryd.ntmps4
  go_wp2_with (first | (go_at_call 7; (with_reducible refine (awake7_h _).mono ?_); rintro e w1 ⟨rfl, hb⟩) | fail)
  go_ret
  exact ⟨rfl, hb⟩
theorem ofR_at {kind : ByteArray} {rs : List TRow} {k : Nat} {r : TRow} (h : rs[k]? = some r) (hk : r.2.head? = some kind) : (ofR kind rs)[(ofR kind (rs.take k)).length]? = some r := by
  obtain ⟨hlt, he⟩ := List.getElem?_eq_some_iff.1 h
  have e : ofR kind rs = ofR kind (rs.take k) ++ r :: ofR kind (rs.drop (k + 1)) := by
    conv => lhs; rw [← List.take_append_drop k rs, List.drop_eq_getElem_cons hlt, he]
    unfold ofR
    rw [List.filter_append, List.filter_cons, if_pos (by simpa using hk)]
  rw [e, List.getElem?_append_right (Nat.le_refl _), Nat.sub_self]; rfl
set_option maxHeartbeats 8000000 in
theorem says_ok {t kind : ByteArray} {rs : List TRow} {n e : Nat} (w : World) (ht : t.size ≤ 2000) (h : tableOf t = (rs, n, e)) : Calls Tryd.prog 4 #[.string t, .string kind] w (TextsR w true) := by
  have d : decide ((2000 : Int) < (t.size : Int)) = false := decide_eq_false (by omega)
  obtain ⟨good, hlen⟩ : (∀ r ∈ rs, GoodWs r.2) ∧ rs.length ≤ 2000 := by
    have h1 := rowsOf_good (pieces 10 t) 0 0 (Nat.zero_le _)
    unfold tableOf at h
    rw [if_neg (by omega)] at h
    rw [h] at h1
    exact ⟨h1.1, by simpa using h1.2⟩
  obtain ⟨N, hN⟩ : ∃ N, N = rs.length := ⟨_, rfl⟩
  obtain ⟨kr, hkr⟩ : ∃ kr, kr = ofR kind rs := ⟨_, rfl⟩
  obtain ⟨q, hq⟩ : ∃ q, q = kr.length := ⟨_, rfl⟩
  have hqN : q ≤ N := by rw [hq, hkr, hN]; exact ofR_le
  have hN2 : N ≤ 2000 := by omega
  have C1 : Hid (∀ V, Calls Tryd.prog 8 #[.string t] V fun x w' => ∃ A c, x = .returned (.tuple #[.slice A N c, .int .i64 (n : Int), .int .i64 (e : Int)]) ∧ Rs w' A rs ∧ Hid (Below V.heap.size V w')) := fun V => by
    rw [hN]; exact (parse_any h V).mono fun _ _ ⟨A, c, h1, _, h3, h4⟩ => ⟨A, c, h1, h3, h4⟩
  have C2 : Hid (∀ V, Calls Tryd.prog 11 #[.string t] V fun x w' => ∃ A c, x = .returned (.tuple #[.slice A N c, .int .i64 (n : Int), .int .i64 (e : Int)]) ∧ Rs w' A rs ∧ Hid (Below V.heap.size V w')) := fun V => by
    rw [hN]; exact (ref_any ht h V).mono fun _ _ ⟨A, c, h1, _, h3, h4⟩ => ⟨A, c, h1, h3, h4⟩
  have C3 : Hid (∀ V A B c d, Rs V A rs → Rs V B rs → Calls Tryd.prog 10 #[.slice A N c, .slice B N d] V (TextsR V true)) := fun V A B c d h1 h2 =>
    alike_same h1 h2 hN (by omega) (fun r hr => by have := (good r hr).2.1; omega)
  have C4 : Hid (∀ V A c, Rs V A rs → Calls Tryd.prog 9 #[.slice A N c, .string kind] V fun x w' => ∃ A c, x = .returned (.slice A q c) ∧ Rs w' A kr ∧ Hid (Below V.heap.size V w')) := fun V A c h1 => by
    rw [hq, hkr]; exact of_any h1 hN hN2 (fun r hr => ⟨(good r hr).1, (good r hr).2.1⟩)
  have C5 : Hid (∀ V, Calls Tryd.prog 13 #[.string t] V (StrR V (blankB t))) := fun V => blank_any (by omega) rfl V
  have C6 : Hid (∀ V, Calls Tryd.prog 14 #[.string t] V (StrR V (blankB t))) := fun V => refblank_any (by omega) rfl V
  have HNN := ehide hN
  have HKR := ehide hkr
  have HQ := ehide hq
  have HGD := ehide good
  obtain ⟨u, hu⟩ : ∃ u, blankB t = u := ⟨_, rfl⟩
  rw [hu] at C5 C6
  clear hu hN hkr hq good hlen ht h
  go_enter Tryd.func4, Tryd.ntmps4
  go_wp2_with (first
    | (go_at_call 7; (with_reducible refine (awake7_h _).mono ?_); rintro e w1 ⟨rfl, hb⟩)
    | (go_at_call 8; (with_reducible refine (C1.out _).mono ?_); rintro e w2 ⟨A1, c1, rfl, HA, hbn⟩; replace hb : Hid (Below w.heap.size w w2) := hb.out.trans (hbn.out.mono hb.out.size); clear hbn)
    | (go_at_call 11; (with_reducible refine (C2.out _).mono ?_); rintro e w3 ⟨A2, c2, rfl, HB, hbn⟩; replace HA := HA.up hbn; replace hb : Hid (Below w.heap.size w w3) := hb.out.trans (hbn.out.mono hb.out.size); clear hbn)
    | (go_at_call 10; (with_reducible refine (C3.out _ _ _ _ _ HA HB).mono ?_); rintro e w4 ⟨rfl, hbn⟩; replace HA := HA.up hbn; replace HB := HB.up hbn; replace hb : Hid (Below w.heap.size w w4) := hb.out.trans (hbn.out.mono hb.out.size); clear hbn)
    | (go_at_call 9; (with_reducible refine (C4.out _ _ _ HA).mono ?_); rintro e w5 ⟨A3, c3, rfl, HK, hbn⟩; replace HB := HB.up hbn; replace hb : Hid (Below w.heap.size w w5) := hb.out.trans (hbn.out.mono hb.out.size); clear hbn)
    | fail)
  go_loopw [12, 13] (fun av iv wr => ∃ k a : Nat, k ≤ N ∧ a ≤ k ∧ iv = .int .i64 (k : Int) ∧ av = .int .i64 (a : Int) ∧ Hid (a = (ofR kind (rs.take k)).length) ∧ Hid (Below w5.heap.size w5 wr)) (fun _ iv _ => N - (intOf iv).toNat)
  case atStart => exact ⟨0, 0, Nat.zero_le _, Nat.le_refl _, rfl, rfl, rfl, Below.refl _ _⟩
  case round =>
    obtain ⟨k, a, hk, hak, rfl, rfl, ha, HW⟩ := hrel
    have HWW : Hid (Below w.heap.size w wr) := hb.out.trans (HW.out.mono hb.out.size)
    by_cases hlt : k < N
    · have w1' : IntKind.i64.wrap ((k : Int) + 1) = (k : Int) + 1 := IntWalk.i64_in _ (by omega)
      have w2' : IntKind.i64.wrap ((a : Int) + 1) = (a : Int) + 1 := IntWalk.i64_in _ (by omega)
      have dlt : decide ((k : Int) < (N : Int)) = true := decide_eq_true (by omega)
      obtain ⟨r, hr⟩ : ∃ r, rs[k]? = some r := ⟨rs[k]'(by rw [← HNN.out]; exact hlt), List.getElem?_eq_getElem (by rw [← HNN.out]; exact hlt)⟩
      obtain ⟨gb, A4, c4, rfl, hgb, hc0, hc1, _, _, hss⟩ := (HB.up HW).row hr
      obtain ⟨hr1, hr2, _⟩ := HGD.out r (List.mem_of_getElem? hr)
      have HM := ehide (ofR_more (kind := kind) hr)
      have HAT : Hid (r.2.head? = some kind → kr[a]? = some r) := fun h1 => by rw [HKR.out, ha.out]; exact ofR_at hr h1
      obtain ⟨r1, r2⟩ := r
      obtain ⟨x, xs, rfl⟩ : ∃ x xs, r2 = x :: xs := by cases r2 with
        | nil => exact absurd rfl hr1
        | cons x xs => exact ⟨x, xs, rfl⟩
      obtain ⟨m, hm⟩ : ∃ m, xs.length = m := ⟨_, rfl⟩
      obtain ⟨ad, rfl, hadb, hadc⟩ := hss.out (by simp)
      have hx := hadc 0 x rfl
      rw [add_nil] at hx
      replace hc0 : wr.cell? ⟨gb, k * 2, none⟩ = some (.int .i64 (r1 : Int)) := hc0
      replace hc1 : wr.cell? ⟨gb, k * 2 + 1, none⟩ = some (.slice (some ad) (m + 1) c4) := by rw [← hm]; exact hc1
      by_cases hxk : x = kind
      · subst hxk
        have hka := HAT.out rfl
        have haq : a < q := by rw [HQ.out]; exact (List.getElem?_eq_some_iff.1 hka).1
        obtain ⟨gk, A5, c5, rfl, hgk, hd0, hd1, _, _, hss'⟩ := (HK.up HW).row hka
        replace hd0 : wr.cell? ⟨gk, a * 2, none⟩ = some (.int .i64 (r1 : Int)) := hd0
        replace hd1 : wr.cell? ⟨gk, a * 2 + 1, none⟩ = some (.slice A5 (m + 1) c5) := by rw [← hm]; exact hd1
        have CT : Hid (Calls Tryd.prog 12 #[.slice A5 (m + 1) c5, .slice (some ad) (m + 1) c4] wr.drew (TextsR wr.drew true)) := by
          have h1 := texts_any (n := m + 1) (n' := m + 1) (c := c5) (c' := c4) hss'.dr hss.dr (by rw [List.length_cons, hm]) (by rw [List.length_cons, hm]) (by rw [List.length_cons] at hr2; omega) (by rw [List.length_cons] at hr2; omega)
          rwa [decide_eq_true rfl] at h1
        have HA2 : Hid (a + 1 = (ofR x (rs.take (k + 1))).length) := by rw [HM.out, if_pos (show (r1, x :: xs).2.head? = some x from rfl), List.length_append, ← ha.out]; exact rfl
        have dq : decide ((q : Int) ≤ (a : Int)) = false := decide_eq_false (by omega)
        have dq2 : decide (q ≤ a) = false := decide_eq_false (by omega)
        clear hm hss hss' hr hka hr1 hr2 hadc
        go_wp2_with fail
        refine wp_region_held_drew (S := fun w' => w'.cell? ⟨gk, a * 2, none⟩ = some (.int .i64 (r1 : Int)) ∧ w'.cell? ⟨gk, a * 2 + 1, none⟩ = some (.slice A5 (m + 1) c5) ∧ w'.cell? ⟨gb, k * 2, none⟩ = some (.int .i64 (r1 : Int)) ∧ w'.cell? ⟨gb, k * 2 + 1, none⟩ = some (.slice (some ad) (m + 1) c4)) (by kernel_rfl) ?_ (fun hHeld => ?_)
        · exact ⟨hd0, hd1, hc0, hc1⟩
        (refine wpAnyH_take (i := 0) (v := ?_) rfl (by decide +kernel) (by decide +kernel) (by decide +kernel) (fun _ _ _ h => h) (Or.inl ⟨by rfl, ?_⟩) (by assumption) ?_; rotate_left; (focus ((intro w hSw; (try dsimp only at hSw); go_simp); (try (with_reducible rfl)); done)); (try simp only [List.getElem_toArray, List.getElem_cons_zero, List.getElem_cons_succ, Act.put, List.setIfInBounds_toArray, List.set_cons_zero, List.set_cons_succ]))
        (refine wpAnyH_take (i := 1) (v := ?_) rfl (by decide +kernel) (by decide +kernel) (by decide +kernel) (fun _ _ _ h => h) (Or.inl ⟨by rfl, ?_⟩) (by assumption) ?_; rotate_left; (focus ((intro w hSw; (try dsimp only at hSw); go_simp); (try (with_reducible rfl)); done)); (try simp only [List.getElem_toArray, List.getElem_cons_zero, List.getElem_cons_succ, Act.put, List.setIfInBounds_toArray, List.set_cons_zero, List.set_cons_succ]))
        (refine wpAnyH_take (i := 2) (v := ?_) rfl (by decide +kernel) (by decide +kernel) (by decide +kernel) (fun _ _ _ h => h) (Or.inl ⟨by rfl, ?_⟩) (by assumption) ?_; rotate_left; (focus ((intro w hSw; (try dsimp only at hSw); go_simp); (try (with_reducible rfl)); done)); (try simp only [List.getElem_toArray, List.getElem_cons_zero, List.getElem_cons_succ, Act.put, List.setIfInBounds_toArray, List.set_cons_zero, List.set_cons_succ]))
        (refine wpAnyH_take (i := 3) (v := ?_) rfl (by decide +kernel) (by decide +kernel) (by decide +kernel) (fun _ _ _ h => h) (Or.inl ⟨by rfl, ?_⟩) (by assumption) ?_; rotate_left; (focus ((intro w hSw; (try dsimp only at hSw); go_simp); (try (with_reducible rfl)); done)); (try simp only [List.getElem_toArray, List.getElem_cons_zero, List.getElem_cons_succ, Act.put, List.setIfInBounds_toArray, List.set_cons_zero, List.set_cons_succ]))
        (refine wpAnyH_take (i := 4) (v := ?_) rfl (by decide +kernel) (by decide +kernel) (by decide +kernel) (fun _ _ _ h => h) (Or.inl ⟨by rfl, ?_⟩) (by assumption) ?_; rotate_left; (focus ((intro w hSw; (try dsimp only at hSw); go_simp); (try (with_reducible rfl)); done)); (try simp only [List.getElem_toArray, List.getElem_cons_zero, List.getElem_cons_succ, Act.put, List.setIfInBounds_toArray, List.set_cons_zero, List.set_cons_succ]))
        (refine wpAnyH_take (i := 5) (v := ?_) rfl (by decide +kernel) (by decide +kernel) (by decide +kernel) (fun _ _ _ h => h) (Or.inl ⟨by rfl, ?_⟩) (by assumption) ?_; rotate_left; (focus ((intro w hSw; (try dsimp only at hSw); go_simp); (try (with_reducible rfl)); done)); (try simp only [List.getElem_toArray, List.getElem_cons_zero, List.getElem_cons_succ, Act.put, List.setIfInBounds_toArray, List.set_cons_zero, List.set_cons_succ]))
        (refine wpAnyH_take (i := 6) (v := ?_) rfl (by decide +kernel) (by decide +kernel) (by decide +kernel) (fun _ _ _ h => h) (Or.inl ⟨by rfl, ?_⟩) (by assumption) ?_; rotate_left; (focus ((intro w hSw; (try dsimp only at hSw); go_simp); (try (with_reducible rfl)); done)); (try simp only [List.getElem_toArray, List.getElem_cons_zero, List.getElem_cons_succ, Act.put, List.setIfInBounds_toArray, List.set_cons_zero, List.set_cons_succ]))
        (refine wpAnyH_take (i := 7) (v := ?_) rfl (by decide +kernel) (by decide +kernel) (by decide +kernel) (fun _ _ _ h => h) (Or.inl ⟨by rfl, ?_⟩) (by assumption) ?_; rotate_left; (focus ((intro w hSw; (try dsimp only at hSw); go_simp); (try (with_reducible rfl)); done)); (try simp only [List.getElem_toArray, List.getElem_cons_zero, List.getElem_cons_succ, Act.put, List.setIfInBounds_toArray, List.set_cons_zero, List.set_cons_succ]))
        (refine wpAnyH_take (i := 8) (v := ?_) rfl (by decide +kernel) (by decide +kernel) (by decide +kernel) (fun _ _ _ h => h) (Or.inl ⟨by rfl, ?_⟩) (by assumption) ?_; rotate_left; (focus ((intro w hSw; (try dsimp only at hSw); go_simp); (try (with_reducible rfl)); done)); (try simp only [List.getElem_toArray, List.getElem_cons_zero, List.getElem_cons_succ, Act.put, List.setIfInBounds_toArray, List.set_cons_zero, List.set_cons_succ]))
        (refine wpAnyH_take (i := 9) (v := ?_) rfl (by decide +kernel) (by decide +kernel) (by decide +kernel) (fun _ _ _ h => h) (Or.inl ⟨by rfl, ?_⟩) (by assumption) ?_; rotate_left; (focus ((intro w hSw; (try dsimp only at hSw); go_simp); (try (with_reducible rfl)); done)); (try simp only [List.getElem_toArray, List.getElem_cons_zero, List.getElem_cons_succ, Act.put, List.setIfInBounds_toArray, List.set_cons_zero, List.set_cons_succ]))
        (refine wpAnyH_take (i := 10) (v := ?_) rfl (by decide +kernel) (by decide +kernel) (by decide +kernel) (fun _ _ _ h => h) (Or.inl ⟨by rfl, ?_⟩) (by assumption) ?_; rotate_left; (focus ((intro w hSw; (try dsimp only at hSw); go_simp); (try (with_reducible rfl)); done)); (try simp only [List.getElem_toArray, List.getElem_cons_zero, List.getElem_cons_succ, Act.put, List.setIfInBounds_toArray, List.set_cons_zero, List.set_cons_succ]))
        (refine wpAnyH_take (i := 11) (v := ?_) rfl (by decide +kernel) (by decide +kernel) (by decide +kernel) (fun _ _ _ h => h) (Or.inl ⟨by rfl, ?_⟩) (by assumption) ?_; rotate_left; (focus ((intro w hSw; (try dsimp only at hSw); go_simp); (try (with_reducible rfl)); done)); (try simp only [List.getElem_toArray, List.getElem_cons_zero, List.getElem_cons_succ, Act.put, List.setIfInBounds_toArray, List.set_cons_zero, List.set_cons_succ]))
        (refine wpAnyH_take (i := 12) (v := ?_) rfl (by decide +kernel) (by decide +kernel) (by decide +kernel) (fun _ _ _ h => h) (Or.inl ⟨by rfl, ?_⟩) (by assumption) ?_; rotate_left; (focus ((intro w hSw; (try dsimp only at hSw); go_simp); (try (with_reducible rfl)); done)); (try simp only [List.getElem_toArray, List.getElem_cons_zero, List.getElem_cons_succ, Act.put, List.setIfInBounds_toArray, List.set_cons_zero, List.set_cons_succ]))
        (refine wpAnyH_take (i := 13) (v := ?_) rfl (by decide +kernel) (by decide +kernel) (by decide +kernel) (fun _ _ _ h => h) (Or.inl ⟨by rfl, ?_⟩) (by assumption) ?_; rotate_left; (focus ((intro w hSw; (try dsimp only at hSw); go_simp); (try (with_reducible rfl)); done)); (try simp only [List.getElem_toArray, List.getElem_cons_zero, List.getElem_cons_succ, Act.put, List.setIfInBounds_toArray, List.set_cons_zero, List.set_cons_succ]))
        (refine wpAnyH_take (i := 14) (v := ?_) rfl (by decide +kernel) (by decide +kernel) (by decide +kernel) (fun _ _ _ h => h) (Or.inl ⟨by rfl, ?_⟩) (by assumption) ?_; rotate_left; (focus ((intro w hSw; (try dsimp only at hSw); go_simp); (try (with_reducible rfl)); done)); (try simp only [List.getElem_toArray, List.getElem_cons_zero, List.getElem_cons_succ, Act.put, List.setIfInBounds_toArray, List.set_cons_zero, List.set_cons_succ]))
        (refine wpAnyH_take (i := 15) (v := ?_) rfl (by decide +kernel) (by decide +kernel) (by decide +kernel) (fun _ _ _ h => h) (Or.inl ⟨by rfl, ?_⟩) (by assumption) ?_; rotate_left; (focus ((intro w hSw; (try dsimp only at hSw); go_simp); (try (with_reducible rfl)); done)); (try simp only [List.getElem_toArray, List.getElem_cons_zero, List.getElem_cons_succ, Act.put, List.setIfInBounds_toArray, List.set_cons_zero, List.set_cons_succ]))
        (refine wpAnyH_take (i := 16) (v := ?_) rfl (by decide +kernel) (by decide +kernel) (by decide +kernel) (fun _ _ _ h => h) (Or.inl ⟨by rfl, ?_⟩) (by assumption) ?_; rotate_left; (focus ((intro w hSw; (try dsimp only at hSw); go_simp); (try (with_reducible rfl)); done)); (try simp only [List.getElem_toArray, List.getElem_cons_zero, List.getElem_cons_succ, Act.put, List.setIfInBounds_toArray, List.set_cons_zero, List.set_cons_succ]))
        (refine wpAnyH_take (i := 17) (v := ?_) rfl (by decide +kernel) (by decide +kernel) (by decide +kernel) (fun _ _ _ h => h) (Or.inl ⟨by rfl, ?_⟩) (by assumption) ?_; rotate_left; (focus ((intro w hSw; (try dsimp only at hSw); go_simp); (try (with_reducible rfl)); done)); (try simp only [List.getElem_toArray, List.getElem_cons_zero, List.getElem_cons_succ, Act.put, List.setIfInBounds_toArray, List.set_cons_zero, List.set_cons_succ]))
        (refine wpAnyH_take (i := 18) (v := ?_) rfl (by decide +kernel) (by decide +kernel) (by decide +kernel) (fun _ _ _ h => h) (Or.inl ⟨by rfl, ?_⟩) (by assumption) ?_; rotate_left; (focus ((intro w hSw; (try dsimp only at hSw); go_simp); (try (with_reducible rfl)); done)); (try simp only [List.getElem_toArray, List.getElem_cons_zero, List.getElem_cons_succ, Act.put, List.setIfInBounds_toArray, List.set_cons_zero, List.set_cons_succ]))
        (refine wpAnyH_take (i := 19) (v := ?_) rfl (by decide +kernel) (by decide +kernel) (by decide +kernel) (fun _ _ _ h => h) (Or.inl ⟨by rfl, ?_⟩) (by assumption) ?_; rotate_left; (focus ((intro w hSw; (try dsimp only at hSw); go_simp); (try (with_reducible rfl)); done)); (try simp only [List.getElem_toArray, List.getElem_cons_zero, List.getElem_cons_succ, Act.put, List.setIfInBounds_toArray, List.set_cons_zero, List.set_cons_succ]))
        (refine wpAnyH_take (i := 20) (v := ?_) rfl (by decide +kernel) (by decide +kernel) (by decide +kernel) (fun _ _ _ h => h) (Or.inl ⟨by rfl, ?_⟩) (by assumption) ?_; rotate_left; (focus ((intro w hSw; (try dsimp only at hSw); go_simp); (try (with_reducible rfl)); done)); (try simp only [List.getElem_toArray, List.getElem_cons_zero, List.getElem_cons_succ, Act.put, List.setIfInBounds_toArray, List.set_cons_zero, List.set_cons_succ]))
        (refine wpAnyH_take (i := 21) (v := ?_) rfl (by decide +kernel) (by decide +kernel) (by decide +kernel) (fun _ _ _ h => h) (Or.inl ⟨by rfl, ?_⟩) (by assumption) ?_; rotate_left; (focus ((intro w hSw; (try dsimp only at hSw); go_simp); (try (with_reducible rfl)); done)); (try simp only [List.getElem_toArray, List.getElem_cons_zero, List.getElem_cons_succ, Act.put, List.setIfInBounds_toArray, List.set_cons_zero, List.set_cons_succ]))
        (refine wpAnyH_take (i := 22) (v := ?_) rfl (by decide +kernel) (by decide +kernel) (by decide +kernel) (fun _ _ _ h => h) (Or.inl ⟨by rfl, ?_⟩) (by assumption) ?_; rotate_left; (focus ((intro w hSw; (try dsimp only at hSw); go_simp); (try (with_reducible rfl)); done)); (try simp only [List.getElem_toArray, List.getElem_cons_zero, List.getElem_cons_succ, Act.put, List.setIfInBounds_toArray, List.set_cons_zero, List.set_cons_succ]))
        (refine wpAnyH_take (i := 23) (v := ?_) rfl (by decide +kernel) (by decide +kernel) (by decide +kernel) (fun _ _ _ h => h) (Or.inl ⟨by rfl, ?_⟩) (by assumption) ?_; rotate_left; (focus ((intro w hSw; (try dsimp only at hSw); go_simp); (try (with_reducible rfl)); done)); (try simp only [List.getElem_toArray, List.getElem_cons_zero, List.getElem_cons_succ, Act.put, List.setIfInBounds_toArray, List.set_cons_zero, List.set_cons_succ]))
        (refine wpAnyH_take (i := 24) (v := ?_) rfl (by decide +kernel) (by decide +kernel) (by decide +kernel) (fun _ _ _ h => h) (Or.inl ⟨by rfl, ?_⟩) (by assumption) ?_; rotate_left; (focus ((intro w hSw; (try dsimp only at hSw); go_simp); (try (with_reducible rfl)); done)); (try simp only [List.getElem_toArray, List.getElem_cons_zero, List.getElem_cons_succ, Act.put, List.setIfInBounds_toArray, List.set_cons_zero, List.set_cons_succ]))
        (refine wpAnyH_take (i := 25) (v := ?_) rfl (by decide +kernel) (by decide +kernel) (by decide +kernel) (fun _ _ _ h => h) (Or.inl ⟨by rfl, ?_⟩) (by assumption) ?_; rotate_left; (focus ((intro w hSw; (try dsimp only at hSw); go_simp); (try (with_reducible rfl)); done)); (try simp only [List.getElem_toArray, List.getElem_cons_zero, List.getElem_cons_succ, Act.put, List.setIfInBounds_toArray, List.set_cons_zero, List.set_cons_succ]))
        (refine wpAnyH_take (i := 26) (v := ?_) rfl (by decide +kernel) (by decide +kernel) (by decide +kernel) (fun _ _ _ h => h) (Or.inl ⟨by rfl, ?_⟩) (by assumption) ?_; rotate_left; (focus ((intro w hSw; (try dsimp only at hSw); go_simp); (try (with_reducible rfl)); done)); (try simp only [List.getElem_toArray, List.getElem_cons_zero, List.getElem_cons_succ, Act.put, List.setIfInBounds_toArray, List.set_cons_zero, List.set_cons_succ]))
        (refine wpAnyH_take (i := 27) (v := ?_) rfl (by decide +kernel) (by decide +kernel) (by decide +kernel) (fun _ _ _ h => h) (Or.inl ⟨by rfl, ?_⟩) (by assumption) ?_; rotate_left; (focus ((intro w hSw; (try dsimp only at hSw); go_simp); (try (with_reducible rfl)); done)); (try simp only [List.getElem_toArray, List.getElem_cons_zero, List.getElem_cons_succ, Act.put, List.setIfInBounds_toArray, List.set_cons_zero, List.set_cons_succ]))
        (refine wpAnyH_ready (rs := [28]) (by decide +kernel) (by simp) ?_; refine AllReadyH.cons rfl (fun K hK => ?_) AllReadyH.nil; go_simp; (go_at_call 12; (with_reducible refine CT.out.mono ?_); rintro e x1 ⟨rfl, hbk⟩); (try (go_wp2_with fail)); refine hK.out _ _ ?_ (fun hHeld => ?_); (focus ((try dsimp only); exact ⟨(hbk.out.cell (p := ⟨gk, a * 2, none⟩) hgk).trans hd0, (hbk.out.cell (p := ⟨gk, a * 2 + 1, none⟩) hgk).trans hd1, (hbk.out.cell (p := ⟨gb, k * 2, none⟩) hgb).trans hc0, (hbk.out.cell (p := ⟨gb, k * 2 + 1, none⟩) hgb).trans hc1⟩)); clear hK K; (try simp only [List.getElem_toArray, List.getElem_cons_zero, List.getElem_cons_succ, Act.put, List.setIfInBounds_toArray, List.set_cons_zero, List.set_cons_succ]))
        (refine wpAnyH_take (i := 29) (v := ?_) rfl (by decide +kernel) (by decide +kernel) (by decide +kernel) (fun _ _ _ h => h) (Or.inl ⟨by rfl, ?_⟩) (by assumption) ?_; rotate_left; (focus ((intro w hSw; (try dsimp only at hSw); go_simp); (try (with_reducible rfl)); done)); (try simp only [List.getElem_toArray, List.getElem_cons_zero, List.getElem_cons_succ, Act.put, List.setIfInBounds_toArray, List.set_cons_zero, List.set_cons_succ]))
        (refine wpAnyH_take (i := 30) (v := ?_) rfl (by decide +kernel) (by decide +kernel) (by decide +kernel) (fun _ _ _ h => h) (Or.inl ⟨by rfl, ?_⟩) (by assumption) ?_; rotate_left; (focus ((intro w hSw; (try dsimp only at hSw); go_simp); (try (with_reducible rfl)); done)); (try simp only [List.getElem_toArray, List.getElem_cons_zero, List.getElem_cons_succ, Act.put, List.setIfInBounds_toArray, List.set_cons_zero, List.set_cons_succ]))
        refine wpAnyH_done (by decide +kernel) ?_ _
        go_wp2
        go_roundw
        case rel => exact ⟨k + 1, a + 1, by omega, by omega, by go_num, by go_num, HA2, HW.out.drew.trans (hbk.out.mono HW.out.size)⟩
        case measure => simp [intOf]; omega
      · have e2 : (x.toList == kind.toList) = false := by
          rw [beq_eq_false_iff_ne]; intro e3; rw [Lib.toList_data, Lib.toList_data] at e3
          exact hxk (ByteArray.ext (Array.ext' e3))
        have HA2 : Hid (a = (ofR kind (rs.take (k + 1))).length) := by rw [HM.out, if_neg (by simpa using hxk)]; exact ha.out
        clear hm hss hr hr1 hr2 hadc hxk
        go_wp2_with fail
        go_roundw
        case rel => exact ⟨k + 1, a, by omega, by omega, by go_num, rfl, HA2, HW⟩
        case measure => simp [intOf]; omega
    · obtain rfl : k = N := by omega
      have haq : a = q := by rw [ha.out, HQ.out, HKR.out, List.take_of_length_le (by rw [← HNN.out]; exact Nat.le_refl _)]
      subst haq
      go_wp2_with (first
        | (go_at_call 13; (with_reducible refine (C5.out _).mono ?_); rintro e w6 ⟨rfl, hbn⟩; replace HWW : Hid (Below w.heap.size w w6) := HWW.out.trans (hbn.out.mono HWW.out.size); clear hbn)
        | (go_at_call 14; (with_reducible refine (C6.out _).mono ?_); rintro e w7 ⟨rfl, hbn⟩; replace HWW : Hid (Below w.heap.size w w7) := HWW.out.trans (hbn.out.mono HWW.out.size); clear hbn)
        | fail)
      go_ret
      exact ⟨rfl, HWW⟩
theorem says_walk {t kind : ByteArray} (w : World) (_ : t.size ≤ maxLen) (_ : kind.size ≤ maxLen) : Calls Tryd.prog 4 #[.string t, .string kind] w fun e w' => e = .returned (.bool true) ∧ Below w.heap.size w w' := by
  by_cases ht : t.size ≤ 2000
  · obtain ⟨⟨rs, n, e⟩, h⟩ : ∃ x, tableOf t = x := ⟨_, rfl⟩
    exact says_ok w ht h
  · exact says_long w ht
end Go.Proofs.YtbmpbcnhgnmekaaDoor
