/- AtomBack's walk. Conditions: texts that fit. -/
import Derived.Test.YtkjcnpckajpogaaDoorKl
open Go.RowKit
set_option maxRecDepth 100000
namespace Go.Proofs.YtkjcnpckajpogaaDoor
theorem lpB_hit {names ps : List ByteArray} {u : ByteArray} : lpB names u ps = 0 ∨ ∃ p ∈ ps, hitB names u p = true ∧ p.size = lpB names u ps := by
  have h : ∀ k, k ≤ ps.length → lpB names u (ps.take k) = 0 ∨ ∃ p ∈ ps, hitB names u p = true ∧ p.size = lpB names u (ps.take k) := by
    intro k
    induction k with
    | zero => intro _; exact .inl rfl
    | succ k ih =>
      intro hk
      rw [lpB_take (by omega)]
      split
      · rename_i hh
        by_cases hm : lpB names u (ps.take k) ≤ ps[k].size
        · exact .inr ⟨ps[k], List.getElem_mem _, hh, by omega⟩
        · rcases ih (by omega) with e | ⟨p, h1, h2, h3⟩
          · omega
          · exact .inr ⟨p, h1, h2, by omega⟩
      · exact ih (by omega)
  have := h ps.length (Nat.le_refl _)
  rwa [List.take_length] at this
theorem hitB_rest {names : List ByteArray} {u p : ByteArray} (h : hitB names u p = true) : restB u p.size ∈ names := by
  unfold hitB at h
  simp only [Bool.and_eq_true] at h
  exact hasB_iff.1 h.2
theorem sizeP_ok {names ps : List ByteArray} {u : ByteArray} (h : (sizeP names ps u).2 = true) : restB u (sizeP names ps u).1 ∈ names ∧ ((sizeP names ps u).1 = 0 ∨ ∃ p ∈ ps, p.size = (sizeP names ps u).1) := by
  unfold sizeP at h ⊢
  by_cases hn : hasB names u = true
  · rw [if_pos hn] at h ⊢
    exact ⟨by rw [restB_zero]; exact hasB_iff.1 hn, .inl rfl⟩
  · rw [if_neg hn] at h ⊢
    have h0 := of_decide_eq_true h
    rcases lpB_hit (names := names) (ps := ps) (u := u) with e | ⟨p, h1, h2, h3⟩
    · omega
    · exact ⟨by have := hitB_rest h2; rwa [h3] at this, .inr ⟨p, h1, h3⟩⟩
theorem cut_join (u : ByteArray) (k : Nat) (h : k ≤ u.size) : u.extract 0 k ++ restB u k = u := by
  apply ByteArray.ext
  apply Array.ext'
  unfold restB
  rw [ByteArray.data_append, Array.toList_append, ByteArray.data_extract, ByteArray.data_extract, Array.toList_extract, Array.toList_extract]
  simp only [List.extract, List.drop_zero, Nat.sub_zero]
  rw [List.take_of_length_le (l := List.drop k u.data.toList) (by rw [List.length_drop, Lib.size_eq]; omega), List.take_append_drop]
theorem join_two (a b : ByteArray) : joinS [a, b] = a ++ ⟨#[45]⟩ ++ b := by
  apply ByteArray.ext
  apply Array.ext'
  show glue 45 [a.data.toList, b.data.toList] = _
  rw [ByteArray.data_append, Array.toList_append, ByteArray.data_append, Array.toList_append]
  simp [glue]
theorem parseU_no {names ps : List ByteArray} {k t : Nat} {u : ByteArray} (h : (parseU names ps k t u).ok = false) : parseU names ps k t u = noPA := by
  unfold parseU at h ⊢
  split
  · rename_i hh; rw [if_pos hh] at h; cases h
  · rfl
theorem parseA_no {names ps l : List ByteArray} (h : (parseA names ps l).ok = false) : parseA names ps l = noPA := by
  unfold parseA at h ⊢
  split
  · rfl
  · rename_i u hu; rw [hu] at h; exact parseU_no h
theorem leadP_form (l : List ByteArray) : leadP l = (1, 0) ∨ ∃ s r, l = s :: r ∧ leadP l = (powOf s, 1) ∧ 2 ≤ powOf s ∧ powOf s < 16 ∧ s = pwB (powOf s) := by
  cases l with
  | nil => exact .inl rfl
  | cons s r =>
    by_cases h : powOf s = 0
    · exact .inl (if_pos h)
    · rcases powOf_is s with h1 | ⟨h1, h2, h3⟩
      · exact absurd h1 h
      · exact .inr ⟨s, r, rfl, if_neg h, h1, h2, h3⟩
/-- An atom that is read of words is shown as these. -/
theorem parse_back {l : List ByteArray} (h : (parseA someN someP l).ok = true) : ∃ p n k, (parseA someN someP l).p = p ∧ (parseA someN someP l).n = n ∧ (parseA someN someP l).k = k ∧ p.size + n.size ≤ 2000 ∧
    (((parseA someN someP l).t = 1 ∧ 0 < l.length ∧ ∃ u, l[0]? = some u ∧ showB p n (k : Int) = u) ∨ ((parseA someN someP l).t = 2 ∧ 1 < l.length ∧ ∃ s u, l[0]? = some s ∧ l[1]? = some u ∧ s.size ≤ 10 ∧ u.size ≤ 2000 ∧ showB p n (k : Int) = s ++ ⟨#[45]⟩ ++ u)) := by
  refine ⟨_, _, _, rfl, rfl, rfl, ?_⟩
  cases hu : l[(leadP l).2]? with
  | none => unfold parseA at h; rw [hu] at h; cases h
  | some u =>
    have e : parseA someN someP l = parseU someN someP (leadP l).1 (leadP l).2 u := by unfold parseA; rw [hu]
    rw [e] at h ⊢
    have hs : (sizeP someN someP u).2 = true := by
      unfold parseU at h
      split at h
      · assumption
      · cases h
    have e2 : parseU someN someP (leadP l).1 (leadP l).2 u = ⟨u.extract 0 (sizeP someN someP u).1, restB u (sizeP someN someP u).1, (leadP l).1, (leadP l).2 + 1, true⟩ := by unfold parseU; rw [if_pos hs]
    rw [e2]
    have hle := sizeP_le someN someP u
    have hj := cut_join u _ hle
    obtain ⟨g1, g2⟩ := sizeP_ok hs
    have z1 : (restB u (sizeP someN someP u).1).size ≤ 1000 := by
      have : ∀ x ∈ someN, x.size ≤ 1000 := by decide +kernel
      exact this _ g1
    have z2 : (sizeP someN someP u).1 ≤ 900 := by
      have : ∀ x ∈ someP, x.size ≤ 900 := by decide +kernel
      rcases g2 with g2 | ⟨p, g3, g4⟩
      · omega
      · rw [← g4]; exact this _ g3
    have z3 : (u.extract 0 (sizeP someN someP u).1).size ≤ 900 := by rw [ByteArray.size_extract]; omega
    refine ⟨by show (u.extract 0 _).size + (restB u _).size ≤ 2000; omega, ?_⟩
    rcases leadP_form l with hl | ⟨s, r, hl1, hl2, h1, h2, h3⟩
    · rw [hl] at hu ⊢
      refine .inl ⟨rfl, ?_, u, hu, ?_⟩
      · exact (List.getElem?_eq_some_iff.1 hu).1
      · show showB (u.extract 0 _) (restB u _) 1 = u
        unfold showB
        rw [if_neg (by omega), if_pos rfl, hj]
    · rw [hl2] at hu ⊢
      have hsz : u.size ≤ 2000 := by rw [← hj, ByteArray.size_append]; omega
      refine .inr ⟨rfl, (List.getElem?_eq_some_iff.1 hu).1, s, u, by rw [hl1]; rfl, hu, ?_, hsz, ?_⟩
      · rw [h3]; have := pwB_size _ h2 h1; omega
      · show showB (u.extract 0 _) (restB u _) ((powOf s : Nat) : Int) = _
        unfold showB
        rw [if_neg (by omega), if_neg (by omega), hj, Int.toNat_natCast, ← h3, join_two]
set_option maxHeartbeats 8000000 in
theorem aback_w {D : Option Addr} {j g : Nat} {l : List ByteArray} (w : World) (h2 : Ss w D l) (hj : j = l.length) (hu : ∀ x ∈ l, x.size ≤ 140737488355328) :
    Calls Tryd.prog 5 #[.slice D j g] w (RetB w true) := by
  have CA := khide awake9_h
  have CS := khide some_h
  have HB := Bel.refl w
  by_cases h12 : 12 < j
  · have d1 : decide ((12 : Int) < (j : Int)) = true := decide_eq_true (by omega)
    clear h12 hu h2 hj
    go_enter Tryd.func5, Tryd.ntmps5
    go_wp2_with (first | (go_at_call 7; (with_reducible refine (CA.out _).mono ?_); rintro e w1 ⟨rfl, hb⟩; (replace HB := HB.up hb.hid)) | fail)
    go_ret
    exact ⟨rfl, HB⟩
  have d1 : decide ((12 : Int) < (j : Int)) = false := decide_eq_false (by omega)
  cases hok : (parseA someN someP l).ok with
  | false =>
    have hno := parseA_no hok
    have CP : Hid (∀ {A B : Option Addr} {W : World}, Bel w W → Ss W A someN → Ss W B someP → Calls Tryd.prog 8 #[.agg #[.slice A 3 3, .slice B 3 3], .slice D j g] W (PResX W ⟨#[]⟩ ⟨#[]⟩ 0 0 false)) := fun hb h h' => by
      have h9 := parse_some (k := 0) (t := 0) (g := g) h h' (h2.up hb.hid) hj hu ⟨congrArg PA.p hno, congrArg PA.n hno, congrArg PA.k hno, congrArg PA.t hno, congrArg PA.ok hno⟩
      exact h9
    have q1 : ∀ W : World, (binOp .eql 24 (.agg #[.string ⟨#[]⟩, .string ⟨#[]⟩, .int .i64 0]) (.agg #[.string ⟨#[]⟩, .string ⟨#[]⟩, .int .i64 0])).run Tryd.prog W = .ok (.bool true) W := fun W => by
      rw [aeq W]; rw [show eqA ⟨#[]⟩ ⟨#[]⟩ 0 ⟨#[]⟩ ⟨#[]⟩ 0 = true by decide +kernel]
    have HJ := khide hj
    clear hok hno hu h2 hj h12
    go_enter Tryd.func5, Tryd.ntmps5
    go_upto_region 6 with (first
      | (go_at_call 7; (with_reducible refine (CA.out _).mono ?_); rintro e w1 ⟨rfl, hb⟩; (replace HB := HB.up hb.hid))
      | (go_at_call 9; (with_reducible refine (CS.out _).mono ?_); rintro e w2 ⟨A, B, rfl, hN, hP, hb⟩; (replace HB := HB.up hb.hid))
      | (go_at_call 8; (with_reducible refine (CP.out HB hN hP).mono ?_); rintro e w3 ⟨rfl, hb⟩; (replace HB := HB.up hb.hid); clear hN hP)
      | fail)
    refine kwp_named ?_
    intro W4 hW4
    have HA : At W4 w3.heap.size [.string ⟨#[]⟩, .string ⟨#[]⟩, .int .i64 0] := by rw [hW4]; exact at_new0 _ _ _
    replace HB : Bel w W4 := by rw [hW4]; exact HB.al _
    obtain ⟨q, hq⟩ : ∃ q, q = w3.heap.size := ⟨_, rfl⟩
    rw [← hq] at HA ⊢
    clear hW4 hq CP CA CS
    have ha_0 := HA.c0; have ha_1 := HA.c1; have ha_2 := HA.c2; have ha_l := HA.lt
    go_wp2_with fail
    go_ret
    exact ⟨rfl, HB⟩
  | true =>
    obtain ⟨p, n, k, e1, e2, e3, hz, hc⟩ := parse_back hok
    rcases hc with ⟨et, hl, u, hu0, hsh⟩ | ⟨et, hl, s, u, hs0, hu1, hsz, huz, hsh⟩
    · have CH : Hid (∀ W : World, Calls Tryd.prog 11 #[.agg #[.string p, .string n, .int .i64 (k : Int)]] W (StrR W (u))) := fun W => show_lit (by omega) hsh W
      have CL : Hid (∀ W : World, Calls Tryd.prog 12 #[.agg #[.string p, .string n, .int .i64 (k : Int)], .agg #[.string p, .string n, .int .i64 (k : Int)]] W (RetB W false)) := fun W => by
        have h9 := less_any p n (k : Int) p n (k : Int) W
        rwa [lessB_irr] at h9
      have CP : Hid (∀ {A B : Option Addr} {W : World}, Bel w W → Ss W A someN → Ss W B someP → Calls Tryd.prog 8 #[.agg #[.slice A 3 3, .slice B 3 3], .slice D j g] W (PResX W p n (k : Int) 1 true)) := fun hb h h' => by
        have h9 := parse_some (p := p) (n := n) (k := k) (t := 1) (ok := true) (g := g) h h' (h2.up hb.hid) hj hu ⟨e1, e2, e3, et, hok⟩
        exact h9
      obtain ⟨ad, rfl, had, hcell0⟩ := h2.out.at_ (k := 0) hl
      have hC : Hid (∀ W', Bel w W' → W'.cell? (ad.add 0) = some (.string u)) := fun W' hb => by
        have h9 := (hb.cell (p := ad.add 0) (by rw [yblock_add]; exact had)).trans hcell0
        rw [h9]
        have h8 := List.getElem?_eq_some_iff.1 hu0
        rw [h8.2]
      have HJ := khide hj
      have j1 : (0 : Int) < (j : Int) := by omega
      have j2 : decide ((j : Int) < 1) = false := decide_eq_false (by omega)
      clear hok hu h2 hj h12 hcell0 had hu0 hl et e1 e2 e3 hsh
      go_enter Tryd.func5, Tryd.ntmps5
      go_upto_region 6 with (first
        | (go_at_call 7; (with_reducible refine (CA.out _).mono ?_); rintro e w1 ⟨rfl, hb⟩; (replace HB := HB.up hb.hid))
        | (go_at_call 9; (with_reducible refine (CS.out _).mono ?_); rintro e w2 ⟨A, B, rfl, hN, hP, hb⟩; (replace HB := HB.up hb.hid))
        | (go_at_call 8; (with_reducible refine (CP.out HB hN hP).mono ?_); rintro e w3 ⟨rfl, hb⟩; (replace HB := HB.up hb.hid); clear hN hP)
        | fail)
      refine kwp_named ?_
      intro W4 hW4
      have HA : At W4 w3.heap.size [.string p, .string n, .int .i64 (k : Int)] := by rw [hW4]; exact at_new0 _ _ _
      replace HB : Bel w W4 := by rw [hW4]; exact HB.al _
      obtain ⟨q, hq⟩ : ∃ q, q = w3.heap.size := ⟨_, rfl⟩
      rw [← hq] at HA ⊢
      clear hW4 hq CP CA CS
      have ha_0 := HA.c0; have ha_1 := HA.c1; have ha_2 := HA.c2; have ha_l := HA.lt
      have hcell := hC.out _ HB
      rw [show ad.add 0 = ad by simp [Addr.add]] at hcell
      go_wp2_with (first
        | (go_at_call 11; (with_reducible refine (CH.out _).mono ?_); rintro e w5 ⟨rfl, hb⟩; (replace HB := HB.up hb); (replace HA := HA.up hb); clear ha_0 ha_1 ha_2 ha_l; have ha_0 := HA.c0; have ha_1 := HA.c1; have ha_2 := HA.c2; have ha_l := HA.lt)
        | (go_at_call 12; (with_reducible refine (CL.out _).mono ?_); rintro e w6 ⟨rfl, hb⟩; (replace HB := HB.up hb.hid))
        | fail)
      go_ret
      exact ⟨rfl, HB⟩
    · have CH : Hid (∀ W : World, Calls Tryd.prog 11 #[.agg #[.string p, .string n, .int .i64 (k : Int)]] W (StrR W (s ++ ⟨#[45]⟩ ++ u))) := fun W => show_lit (by omega) hsh W
      have CL : Hid (∀ W : World, Calls Tryd.prog 12 #[.agg #[.string p, .string n, .int .i64 (k : Int)], .agg #[.string p, .string n, .int .i64 (k : Int)]] W (RetB W false)) := fun W => by
        have h9 := less_any p n (k : Int) p n (k : Int) W
        rwa [lessB_irr] at h9
      have CP : Hid (∀ {A B : Option Addr} {W : World}, Bel w W → Ss W A someN → Ss W B someP → Calls Tryd.prog 8 #[.agg #[.slice A 3 3, .slice B 3 3], .slice D j g] W (PResX W p n (k : Int) 2 true)) := fun hb h h' => by
        have h9 := parse_some (p := p) (n := n) (k := k) (t := 2) (ok := true) (g := g) h h' (h2.up hb.hid) hj hu ⟨e1, e2, e3, et, hok⟩
        exact h9
      obtain ⟨ad, rfl, had, hcell0⟩ := h2.out.at_ (k := 1) hl
      have hC : Hid (∀ W', Bel w W' → W'.cell? (ad.add 0) = some (.string s) ∧ W'.cell? (ad.add 1) = some (.string u)) := fun W' hb => by
        have k0 : 0 < l.length := by omega
        obtain ⟨ad2, e9, had2, hcell2⟩ := h2.out.at_ (k := 0) k0
        injection e9 with e9
        subst e9
        have h9 := (hb.cell (p := ad.add 1) (by rw [yblock_add]; exact had)).trans hcell0
        have h7 := (hb.cell (p := ad.add 0) (by rw [yblock_add]; exact had)).trans hcell2
        rw [h9, h7]
        have h8 := List.getElem?_eq_some_iff.1 hu1
        have h6 := List.getElem?_eq_some_iff.1 hs0
        rw [h8.2, h6.2]
        exact ⟨rfl, rfl⟩
      have HJ := khide hj
      have j1 : (1 : Int) < (j : Int) := by omega
      have j0 : (0 : Int) < (j : Int) := by omega
      have j2 : decide ((j : Int) < 2) = false := decide_eq_false (by omega)
      have s1 : s.size + 1 ≤ 9223372036854775807 := by omega
      have s2 : s.size + 1 + u.size ≤ 9223372036854775807 := by omega
      clear hok hu h2 hj h12 hcell0 had hu1 hs0 hl et e1 e2 e3 hsh
      go_enter Tryd.func5, Tryd.ntmps5
      go_upto_region 6 with (first
        | (go_at_call 7; (with_reducible refine (CA.out _).mono ?_); rintro e w1 ⟨rfl, hb⟩; (replace HB := HB.up hb.hid))
        | (go_at_call 9; (with_reducible refine (CS.out _).mono ?_); rintro e w2 ⟨A, B, rfl, hN, hP, hb⟩; (replace HB := HB.up hb.hid))
        | (go_at_call 8; (with_reducible refine (CP.out HB hN hP).mono ?_); rintro e w3 ⟨rfl, hb⟩; (replace HB := HB.up hb.hid); clear hN hP)
        | fail)
      refine kwp_named ?_
      intro W4 hW4
      have HA : At W4 w3.heap.size [.string p, .string n, .int .i64 (k : Int)] := by rw [hW4]; exact at_new0 _ _ _
      replace HB : Bel w W4 := by rw [hW4]; exact HB.al _
      obtain ⟨q, hq⟩ : ∃ q, q = w3.heap.size := ⟨_, rfl⟩
      rw [← hq] at HA ⊢
      clear hW4 hq CP CA CS
      have ha_0 := HA.c0; have ha_1 := HA.c1; have ha_2 := HA.c2; have ha_l := HA.lt
      have hcell := (hC.out _ HB).1
      have hcell1 := (hC.out _ HB).2
      rw [show ad.add 0 = ad by simp [Addr.add]] at hcell
      have hcell1b : W4.cell? ⟨ad.block, ad.off + 1, none⟩ = some (.string u) := by
        obtain ⟨b9, o9, e9⟩ := plain_of hcell
        rw [e9] at hcell1 ⊢
        simpa [Addr.add] using hcell1
      go_wp2_with (first
        | (go_at_call 11; (with_reducible refine (CH.out _).mono ?_); rintro e w5 ⟨rfl, hb⟩; (replace HB := HB.up hb); (replace HA := HA.up hb); clear ha_0 ha_1 ha_2 ha_l; have ha_0 := HA.c0; have ha_1 := HA.c1; have ha_2 := HA.c2; have ha_l := HA.lt)
        | (go_at_call 12; (with_reducible refine (CL.out _).mono ?_); rintro e w6 ⟨rfl, hb⟩; (replace HB := HB.up hb.hid))
        | fail)
      go_ret
      exact ⟨rfl, HB⟩
theorem aback_all {D : Option Addr} {j g : Nat} {l : List ByteArray} (w : World) (h : j = l.length ∧ j ≤ g ∧ Ss w D l) (hu : ∀ x ∈ l, x.size ≤ 140737488355328) :
    Calls Tryd.prog 5 #[.slice D j g] w (fun e w' => e = .returned (.bool true) ∧ Below w.heap.size w w') := aback_w w h.2.2 h.1 hu
end Go.Proofs.YtkjcnpckajpogaaDoor
