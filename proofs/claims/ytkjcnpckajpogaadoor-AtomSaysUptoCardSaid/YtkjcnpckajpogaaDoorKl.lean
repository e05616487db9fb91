/- The order of atoms; AtomOrder's walk. No conditions. -/
import Derived.Test.YtkjcnpckajpogaaDoorGKxc3
import Derived.Lib.MinMaxS
import Derived.Deep.RegionHeld3
open Go.RowKit
set_option maxRecDepth 100000
namespace Go.Proofs.YtkjcnpckajpogaaDoor
theorem ltS_iff (a b : ByteArray) : ltS a b = true ↔ a.data.toList < b.data.toList := by
  unfold ltS; rw [bytesLess_eq, Lib.toList_data, Lib.toList_data]; simp
theorem ltS_irr (a : ByteArray) : ltS a a = false := by
  rw [Bool.eq_false_iff]; intro h; exact List.lt_irrefl _ ((ltS_iff a a).1 h)
theorem ltS_tr {a b c : ByteArray} (h : ltS a b = true) (h' : ltS b c = true) : ltS a c = true := (ltS_iff a c).2 (List.lt_trans ((ltS_iff a b).1 h) ((ltS_iff b c).1 h'))
theorem ltS_tri {a b : ByteArray} (h : ltS a b = false) (h' : ltS b a = false) : a = b := by
  rw [Bool.eq_false_iff] at h h'
  have h1 : ¬ a.data.toList < b.data.toList := fun e => h ((ltS_iff a b).2 e)
  have h2 : ¬ b.data.toList < a.data.toList := fun e => h' ((ltS_iff b a).2 e)
  exact ByteArray.ext (Array.ext' (List.le_antisymm h2 h1))
theorem ltS_as {a b : ByteArray} (h : ltS a b = true) : ltS b a = false := by
  rw [Bool.eq_false_iff]; intro h'
  have := ltS_tr h h'
  rw [ltS_irr] at this; cases this
theorem cmpS_cases (a b : ByteArray) : (ltS a b = true ∧ cmpS a b = -1) ∨ (a = b ∧ cmpS a b = 0) ∨ (ltS b a = true ∧ cmpS a b = 1) := by
  unfold cmpS
  cases h : ltS a b with
  | true => exact .inl ⟨rfl, rfl⟩
  | false =>
    by_cases e : a = b
    · subst e; exact .inr (.inl ⟨rfl, by simp⟩)
    · refine .inr (.inr ⟨?_, ?_⟩)
      · cases h' : ltS b a with
        | true => rfl
        | false => exact absurd (ltS_tri h h') e
      · rw [str_ne e]; rfl
theorem cmpI_cases (a b : Int) : (a < b ∧ Lib.compareInt a b = -1) ∨ (a = b ∧ Lib.compareInt a b = 0) ∨ (b < a ∧ Lib.compareInt a b = 1) := by
  unfold Lib.compareInt
  rcases Int.lt_trichotomy a b with h | h | h
  · exact .inl ⟨h, by rw [if_pos h]⟩
  · subst h; exact .inr (.inl ⟨rfl, by simp⟩)
  · exact .inr (.inr ⟨h, by rw [if_neg (by omega)]; simp; omega⟩)
/-- What Less says. -/
def LtA (p n : ByteArray) (k : Int) (p' n' : ByteArray) (k' : Int) : Prop := ltS n n' = true ∨ (n = n' ∧ (ltS p p' = true ∨ (p = p' ∧ k < k')))
theorem lessB_iff (p n : ByteArray) (k : Int) (p' n' : ByteArray) (k' : Int) : lessB p n k p' n' k' = true ↔ LtA p n k p' n' k' := by
  unfold lessB LtA or3
  rw [decide_eq_true_eq]
  rcases cmpS_cases n n' with ⟨a, e⟩ | ⟨a, e⟩ | ⟨a, e⟩
  · rw [e]; simp [a]
  · subst a
    rw [e]
    simp only [ltS_irr]
    rcases cmpS_cases p p' with ⟨a, e⟩ | ⟨a, e⟩ | ⟨a, e⟩
    · rw [e]; simp [a]
    · subst a
      rw [e]
      simp only [ltS_irr]
      rcases cmpI_cases k k' with ⟨a, e⟩ | ⟨a, e⟩ | ⟨a, e⟩
      · rw [e]; simp [a]
      · rw [e]; simp [a]
      · rw [e]; simp; omega
    · rw [e]
      have h1 := ltS_as a
      have h2 : p ≠ p' := by rintro rfl; rw [ltS_irr] at a; cases a
      simp [h1, h2]
  · rw [e]
    have h1 := ltS_as a
    have h2 : n ≠ n' := by rintro rfl; rw [ltS_irr] at a; cases a
    simp [h1, h2]
section
variable {p1 n1 p2 n2 p3 n3 : ByteArray} {k1 k2 k3 : Int}
theorem lessB_irr : lessB p1 n1 k1 p1 n1 k1 = false := by
  rw [Bool.eq_false_iff]; intro h
  rcases (lessB_iff _ _ _ _ _ _).1 h with h | ⟨_, h | ⟨_, h⟩⟩
  · rw [ltS_irr] at h; cases h
  · rw [ltS_irr] at h; cases h
  · omega
theorem lessB_tr (h : lessB p1 n1 k1 p2 n2 k2 = true) (h' : lessB p2 n2 k2 p3 n3 k3 = true) : lessB p1 n1 k1 p3 n3 k3 = true := by
  rw [lessB_iff] at h h' ⊢
  rcases h with h | ⟨rfl, h⟩
  · rcases h' with h' | ⟨rfl, h'⟩
    · exact .inl (ltS_tr h h')
    · exact .inl h
  · rcases h' with h' | ⟨rfl, h'⟩
    · exact .inl h'
    · refine .inr ⟨rfl, ?_⟩
      rcases h with h | ⟨rfl, h⟩
      · rcases h' with h' | ⟨rfl, h'⟩
        · exact .inl (ltS_tr h h')
        · exact .inl h
      · rcases h' with h' | ⟨rfl, h'⟩
        · exact .inl h'
        · exact .inr ⟨rfl, by omega⟩
theorem lessB_tri (h : eqA p1 n1 k1 p2 n2 k2 = false) : (lessB p1 n1 k1 p2 n2 k2 == lessB p2 n2 k2 p1 n1 k1) = false := by
  have hne : ¬ (p1 = p2 ∧ n1 = n2 ∧ k1 = k2) := of_decide_eq_false h
  cases h1 : lessB p1 n1 k1 p2 n2 k2 <;> cases h2 : lessB p2 n2 k2 p1 n1 k1
  · exfalso
    rw [Bool.eq_false_iff] at h1 h2
    rw [ne_eq, lessB_iff] at h1 h2
    unfold LtA at h1 h2
    simp only [not_or, not_and] at h1 h2
    have e1 : n1 = n2 := ltS_tri (by simpa using h1.1) (by simpa using h2.1)
    have e2 : p1 = p2 := ltS_tri (by simpa using (h1.2 e1).1) (by simpa using (h2.2 e1.symm).1)
    have a := (h1.2 e1).2 e2
    have b := (h2.2 e1.symm).2 e2.symm
    exact hne ⟨e2, e1, by omega⟩
  · rfl
  · rfl
  · exfalso
    have := lessB_tr h1 h2
    rw [lessB_irr] at this; cases this
theorem lessB_eq (h : eqA p1 n1 k1 p2 n2 k2 = true) : lessB p1 n1 k1 p2 n2 k2 = false := by
  obtain ⟨rfl, rfl, rfl⟩ := of_decide_eq_true h
  exact lessB_irr
end
set_option maxHeartbeats 16000000 in
theorem aorder_w {p1 n1 p2 n2 p3 n3 : ByteArray} {k1 k2 k3 : Int} {E x y z v : Bool} (w : World) (CA : Hid (∀ W, Calls Tryd.prog 7 #[] W (RetB W true))) (C1 : Hid (∀ W, Calls Tryd.prog 12 #[.agg #[.string p1, .string n1, .int .i64 k1], .agg #[.string p2, .string n2, .int .i64 k2]] W (RetB W x))) (C2 : Hid (∀ W, Calls Tryd.prog 12 #[.agg #[.string p2, .string n2, .int .i64 k2], .agg #[.string p1, .string n1, .int .i64 k1]] W (RetB W y))) (C3 : Hid (∀ W, Calls Tryd.prog 12 #[.agg #[.string p2, .string n2, .int .i64 k2], .agg #[.string p3, .string n3, .int .i64 k3]] W (RetB W z))) (C4 : Hid (∀ W, Calls Tryd.prog 12 #[.agg #[.string p1, .string n1, .int .i64 k1], .agg #[.string p3, .string n3, .int .i64 k3]] W (RetB W v)))
    (q1 : ∀ W, (binOp .eql 24 (.agg #[.string p1, .string n1, .int .i64 k1]) (.agg #[.string p2, .string n2, .int .i64 k2])).run Tryd.prog W = .ok (.bool E) W) (q2 : ∀ W, (binOp .neq 24 (.agg #[.string p1, .string n1, .int .i64 k1]) (.agg #[.string p2, .string n2, .int .i64 k2])).run Tryd.prog W = .ok (.bool (!E)) W)
    (h1 : E = true → x = false) (h2 : E = false → (x == y) = false) (h3 : x = true → z = true → v = true) :
    Calls Tryd.prog 6 #[.agg #[.string p1, .string n1, .int .i64 k1], .agg #[.string p2, .string n2, .int .i64 k2], .agg #[.string p3, .string n3, .int .i64 k3]] w (RetB w true) := by
  obtain ⟨W0, hW0⟩ : ∃ X, X = ((w.alloc (.cells #[.string p1, .string n1, .int .i64 k1] 24)).alloc (.cells #[.string p2, .string n2, .int .i64 k2] 24)).alloc (.cells #[.string p3, .string n3, .int .i64 k3] 24) := ⟨_, rfl⟩
  have HA : At W0 w.heap.size [.string p1, .string n1, .int .i64 k1] := by rw [hW0]; exact ((at_new0 _ _ _).al _).al _
  have HC : At W0 (w.heap.size + 1) [.string p2, .string n2, .int .i64 k2] := by rw [hW0]; exact (at_new1 _ _ _ _).al _
  have HD : At W0 (w.heap.size + 1 + 1) [.string p3, .string n3, .int .i64 k3] := by rw [hW0]; exact at_new2 _ _ _ _ _
  have HB : Bel w W0 := by rw [hW0]; exact (((Bel.refl w).al _).al _).al _
  have HW := khide hW0
  clear hW0
  have HX1 := khide h1
  have HX2 := khide h2
  have HX3 := khide h3
  clear h1 h2 h3
  go_enter Tryd.func6, Tryd.ntmps6
  go_upto_region 1 with fail
  rw [← HW.out]
  obtain ⟨pc, hpc⟩ : ∃ p, p = w.heap.size + 1 + 1 := ⟨_, rfl⟩
  obtain ⟨pb, hpb⟩ : ∃ p, p = w.heap.size + 1 := ⟨_, rfl⟩
  obtain ⟨pa, hpa⟩ : ∃ p, p = w.heap.size := ⟨_, rfl⟩
  rw [← hpc] at HD
  rw [← hpb] at HC
  rw [← hpa] at HA
  rw [← hpc, ← hpb, ← hpa]
  clear HW hpa hpb hpc
  go_upto_region 3 with (first | (go_at_call 7; (with_reducible refine (CA.out _).mono ?_); rintro e w1 ⟨rfl, hb⟩; have hbk := hb.hid; (with_reducible (replace HA := HA.up hbk; replace HC := HC.up hbk; replace HD := HD.up hbk; replace HB := HB.up hbk))) | fail)
  replace HA := HA.dr; replace HC := HC.dr; replace HD := HD.dr; replace HB := HB.dr
  cases E with
  | true =>
    obtain rfl : x = false := HX1.out (by trivial)
    refine wp_region_held_drew (S := fun w' => w'.cell? ⟨pa, 0, none⟩ = some (.string p1) ∧ w'.cell? ⟨pa, 1, none⟩ = some (.string n1) ∧ w'.cell? ⟨pa, 2, none⟩ = some (.int .i64 k1) ∧ w'.cell? ⟨pb, 0, none⟩ = some (.string p2) ∧ w'.cell? ⟨pb, 1, none⟩ = some (.string n2) ∧ w'.cell? ⟨pb, 2, none⟩ = some (.int .i64 k2)) (by kernel_rfl) ?_ (fun hHeld => ?_)
    · exact ⟨HA.c0, HA.c1, HA.c2, HC.c0, HC.c1, HC.c2⟩
    generalize w1.drew = Wd at *
    (refine wpAnyH_take (i := 0) (v := ?_) rfl (by decide +kernel) (by decide +kernel) (by decide +kernel) (fun _ _ _ h => h) (Or.inl ⟨by rfl, ?_⟩) (by assumption) ?_; rotate_left; (focus ((intro w hSw; (try dsimp only at hSw); go_simp); (try (with_reducible rfl)); done)); (try simp only [List.getElem_toArray, List.getElem_cons_zero, List.getElem_cons_succ, Act.put, List.setIfInBounds_toArray, List.set_cons_zero, List.set_cons_succ]))
    (refine wpAnyH_take (i := 1) (v := ?_) rfl (by decide +kernel) (by decide +kernel) (by decide +kernel) (fun _ _ _ h => h) (Or.inl ⟨by rfl, ?_⟩) (by assumption) ?_; rotate_left; (focus ((intro w hSw; (try dsimp only at hSw); go_simp); (try (with_reducible rfl)); done)); (try simp only [List.getElem_toArray, List.getElem_cons_zero, List.getElem_cons_succ, Act.put, List.setIfInBounds_toArray, List.set_cons_zero, List.set_cons_succ]))
    (refine wpAnyH_take (i := 2) (v := ?_) rfl (by decide +kernel) (by decide +kernel) (by decide +kernel) (fun _ _ _ h => h) (Or.inl ⟨by rfl, ?_⟩) (by assumption) ?_; rotate_left; (focus ((intro w hSw; (try dsimp only at hSw); go_simp); (try (with_reducible rfl)); done)); (try simp only [List.getElem_toArray, List.getElem_cons_zero, List.getElem_cons_succ, Act.put, List.setIfInBounds_toArray, List.set_cons_zero, List.set_cons_succ]))
    (refine wpAnyH_take (i := 3) (v := ?_) rfl (by decide +kernel) (by decide +kernel) (by decide +kernel) (fun _ _ _ h => h) (Or.inl ⟨by rfl, ?_⟩) (by assumption) ?_; rotate_left; (focus ((intro w hSw; (try dsimp only at hSw); go_simp); (try (with_reducible rfl)); done)); (try simp only [List.getElem_toArray, List.getElem_cons_zero, List.getElem_cons_succ, Act.put, List.setIfInBounds_toArray, List.set_cons_zero, List.set_cons_succ]))
    (refine wpAnyH_take (i := 4) (v := undef) rfl (by decide +kernel) (by decide +kernel) (by decide +kernel) (fun _ _ _ h => h) (Or.inr ⟨by rfl, rfl⟩) (by assumption) ?_; (try simp only [List.getElem_toArray, List.getElem_cons_zero, List.getElem_cons_succ, Act.put, List.setIfInBounds_toArray, List.set_cons_zero, List.set_cons_succ]))
    (refine wpAnyH_take (i := 5) (v := undef) rfl (by decide +kernel) (by decide +kernel) (by decide +kernel) (fun _ _ _ h => h) (Or.inr ⟨by rfl, rfl⟩) (by assumption) ?_; (try simp only [List.getElem_toArray, List.getElem_cons_zero, List.getElem_cons_succ, Act.put, List.setIfInBounds_toArray, List.set_cons_zero, List.set_cons_succ]))
    (refine wpAnyH_take (i := 7) (v := undef) rfl (by decide +kernel) (by decide +kernel) (by decide +kernel) (fun _ _ _ h => h) (Or.inr ⟨by rfl, rfl⟩) (by assumption) ?_; (try simp only [List.getElem_toArray, List.getElem_cons_zero, List.getElem_cons_succ, Act.put, List.setIfInBounds_toArray, List.set_cons_zero, List.set_cons_succ]))
    (refine wpAnyH_take (i := 8) (v := undef) rfl (by decide +kernel) (by decide +kernel) (by decide +kernel) (fun _ _ _ h => h) (Or.inr ⟨by rfl, rfl⟩) (by assumption) ?_; (try simp only [List.getElem_toArray, List.getElem_cons_zero, List.getElem_cons_succ, Act.put, List.setIfInBounds_toArray, List.set_cons_zero, List.set_cons_succ]))
    (refine wpAnyH_take (i := 6) (v := undef) rfl (by decide +kernel) (by decide +kernel) (by decide +kernel) (fun _ _ _ h => h) (Or.inr ⟨by rfl, rfl⟩) (by assumption) ?_; (try simp only [List.getElem_toArray, List.getElem_cons_zero, List.getElem_cons_succ, Act.put, List.setIfInBounds_toArray, List.set_cons_zero, List.set_cons_succ]))
    (refine wpAnyH_take (i := 9) (v := undef) rfl (by decide +kernel) (by decide +kernel) (by decide +kernel) (fun _ _ _ h => h) (Or.inr ⟨by rfl, rfl⟩) (by assumption) ?_; (try simp only [List.getElem_toArray, List.getElem_cons_zero, List.getElem_cons_succ, Act.put, List.setIfInBounds_toArray, List.set_cons_zero, List.set_cons_succ]))
    (refine wpAnyH_take (i := 10) (v := undef) rfl (by decide +kernel) (by decide +kernel) (by decide +kernel) (fun _ _ _ h => h) (Or.inr ⟨by rfl, rfl⟩) (by assumption) ?_; (try simp only [List.getElem_toArray, List.getElem_cons_zero, List.getElem_cons_succ, Act.put, List.setIfInBounds_toArray, List.set_cons_zero, List.set_cons_succ]))
    (refine wpAnyH_take (i := 11) (v := ?_) rfl (by decide +kernel) (by decide +kernel) (by decide +kernel) (fun _ _ _ h => h) (Or.inl ⟨by rfl, ?_⟩) (by assumption) ?_; rotate_left; (focus ((intro w hSw; (try dsimp only at hSw); go_simp); (try (with_reducible rfl)); done)); (try simp only [List.getElem_toArray, List.getElem_cons_zero, List.getElem_cons_succ, Act.put, List.setIfInBounds_toArray, List.set_cons_zero, List.set_cons_succ]))
    (refine wpAnyH_take (i := 12) (v := ?_) rfl (by decide +kernel) (by decide +kernel) (by decide +kernel) (fun _ _ _ h => h) (Or.inl ⟨by rfl, ?_⟩) (by assumption) ?_; rotate_left; (focus ((intro w hSw; (try dsimp only at hSw); go_simp); (try (with_reducible rfl)); done)); (try simp only [List.getElem_toArray, List.getElem_cons_zero, List.getElem_cons_succ, Act.put, List.setIfInBounds_toArray, List.set_cons_zero, List.set_cons_succ]))
    (refine wpAnyH_take (i := 13) (v := ?_) rfl (by decide +kernel) (by decide +kernel) (by decide +kernel) (fun _ _ _ h => h) (Or.inl ⟨by rfl, ?_⟩) (by assumption) ?_; rotate_left; (focus ((intro w hSw; (try dsimp only at hSw); go_simp); (try (with_reducible rfl)); done)); (try simp only [List.getElem_toArray, List.getElem_cons_zero, List.getElem_cons_succ, Act.put, List.setIfInBounds_toArray, List.set_cons_zero, List.set_cons_succ]))
    (refine wpAnyH_take (i := 14) (v := ?_) rfl (by decide +kernel) (by decide +kernel) (by decide +kernel) (fun _ _ _ h => h) (Or.inl ⟨by rfl, ?_⟩) (by assumption) ?_; rotate_left; (focus ((intro w hSw; (try dsimp only at hSw); go_simp); (try (with_reducible rfl)); done)); (try simp only [List.getElem_toArray, List.getElem_cons_zero, List.getElem_cons_succ, Act.put, List.setIfInBounds_toArray, List.set_cons_zero, List.set_cons_succ]))
    (refine wpAnyH_take (i := 15) (v := ?_) rfl (by decide +kernel) (by decide +kernel) (by decide +kernel) (fun _ _ _ h => h) (Or.inl ⟨by rfl, ?_⟩) (by assumption) ?_; rotate_left; (focus ((intro w hSw; (try dsimp only at hSw); go_simp); (try (with_reducible rfl)); done)); (try simp only [List.getElem_toArray, List.getElem_cons_zero, List.getElem_cons_succ, Act.put, List.setIfInBounds_toArray, List.set_cons_zero, List.set_cons_succ]))
    (refine wpAnyH_take (i := 16) (v := ?_) rfl (by decide +kernel) (by decide +kernel) (by decide +kernel) (fun _ _ _ h => h) (Or.inl ⟨by rfl, ?_⟩) (by assumption) ?_; rotate_left; (focus ((intro w hSw; (try dsimp only at hSw); go_simp); (try (with_reducible rfl)); done)); (try simp only [List.getElem_toArray, List.getElem_cons_zero, List.getElem_cons_succ, Act.put, List.setIfInBounds_toArray, List.set_cons_zero, List.set_cons_succ]))
    (refine wpAnyH_take (i := 17) (v := ?_) rfl (by decide +kernel) (by decide +kernel) (by decide +kernel) (fun _ _ _ h => h) (Or.inl ⟨by rfl, ?_⟩) (by assumption) ?_; rotate_left; (focus ((intro w hSw; (try dsimp only at hSw); go_simp); (try (with_reducible rfl)); done)); (try simp only [List.getElem_toArray, List.getElem_cons_zero, List.getElem_cons_succ, Act.put, List.setIfInBounds_toArray, List.set_cons_zero, List.set_cons_succ]))
    (refine wpAnyH_take (i := 18) (v := ?_) rfl (by decide +kernel) (by decide +kernel) (by decide +kernel) (fun _ _ _ h => h) (Or.inl ⟨by rfl, ?_⟩) (by assumption) ?_; rotate_left; (focus ((intro w hSw; (try dsimp only at hSw); go_simp); (try (with_reducible rfl)); done)); (try simp only [List.getElem_toArray, List.getElem_cons_zero, List.getElem_cons_succ, Act.put, List.setIfInBounds_toArray, List.set_cons_zero, List.set_cons_succ]))
    (refine wpAnyH_ready (rs := [19]) (by decide +kernel) (by simp) ?_; refine AllReadyH.cons rfl (fun K hK => ?_) AllReadyH.nil; go_simp; (go_at_call 12; (with_reducible refine (C1.out _).mono ?_); rintro e w2 ⟨rfl, hb⟩; have hbk := hb.hid; (with_reducible (replace HA := HA.up hbk; replace HC := HC.up hbk; replace HD := HD.up hbk; replace HB := HB.up hbk))); (try (go_wp2_with fail)); refine hK.out _ _ ?_ (fun hHeld => ?_); (focus ((try dsimp only); (with_reducible exact ⟨HA.c0, HA.c1, HA.c2, HC.c0, HC.c1, HC.c2⟩))); clear hK K; (try simp only [List.getElem_toArray, List.getElem_cons_zero, List.getElem_cons_succ, Act.put, List.setIfInBounds_toArray, List.set_cons_zero, List.set_cons_succ]))
    (refine wpAnyH_take (i := 20) (v := ?_) rfl (by decide +kernel) (by decide +kernel) (by decide +kernel) (fun _ _ _ h => h) (Or.inl ⟨by rfl, ?_⟩) (by assumption) ?_; rotate_left; (focus ((intro w hSw; (try dsimp only at hSw); go_simp); (try (with_reducible rfl)); done)); (try simp only [List.getElem_toArray, List.getElem_cons_zero, List.getElem_cons_succ, Act.put, List.setIfInBounds_toArray, List.set_cons_zero, List.set_cons_succ]))
    (refine wpAnyH_take (i := 21) (v := ?_) rfl (by decide +kernel) (by decide +kernel) (by decide +kernel) (fun _ _ _ h => h) (Or.inl ⟨by rfl, ?_⟩) (by assumption) ?_; rotate_left; (focus ((intro w hSw; (try dsimp only at hSw); go_simp); (try (with_reducible rfl)); done)); (try simp only [List.getElem_toArray, List.getElem_cons_zero, List.getElem_cons_succ, Act.put, List.setIfInBounds_toArray, List.set_cons_zero, List.set_cons_succ]))
    refine wpAnyH_done (by decide +kernel) ?_ _
    go_upto_region 5 with fail
    have ha_0 := HA.c0
    have ha_1 := HA.c1
    have ha_2 := HA.c2
    have hc_0 := HC.c0
    have hc_1 := HC.c1
    have hc_2 := HC.c2
    have hd_0 := HD.c0
    have hd_1 := HD.c1
    have hd_2 := HD.c2
    have lha := HA.lt
    have lhc := HC.lt
    have lhd := HD.lt
    go_wp2_with (first | (go_at_call 12; (with_reducible refine (C1.out _).mono ?_); rintro e z1 ⟨rfl, hb⟩; have hbk := hb.hid; (with_reducible (replace HA := HA.up hbk; replace HC := HC.up hbk; replace HD := HD.up hbk; replace HB := HB.up hbk)); clear ha_0 ha_1 ha_2 hc_0 hc_1 hc_2 hd_0 hd_1 hd_2 lha lhc lhd; have ha_0 := HA.c0; have ha_1 := HA.c1; have ha_2 := HA.c2; have hc_0 := HC.c0; have hc_1 := HC.c1; have hc_2 := HC.c2; have hd_0 := HD.c0; have hd_1 := HD.c1; have hd_2 := HD.c2; have lha := HA.lt; have lhc := HC.lt; have lhd := HD.lt) | (go_at_call 12; (with_reducible refine (C3.out _).mono ?_); rintro e z2 ⟨rfl, hb⟩; have hbk := hb.hid; (with_reducible (replace HA := HA.up hbk; replace HC := HC.up hbk; replace HD := HD.up hbk; replace HB := HB.up hbk)); clear ha_0 ha_1 ha_2 hc_0 hc_1 hc_2 hd_0 hd_1 hd_2 lha lhc lhd; have ha_0 := HA.c0; have ha_1 := HA.c1; have ha_2 := HA.c2; have hc_0 := HC.c0; have hc_1 := HC.c1; have hc_2 := HC.c2; have hd_0 := HD.c0; have hd_1 := HD.c1; have hd_2 := HD.c2; have lha := HA.lt; have lhc := HC.lt; have lhd := HD.lt) | (go_at_call 12; (with_reducible refine (C4.out _).mono ?_); rintro e z3 ⟨rfl, hb⟩; have hbk := hb.hid; (with_reducible (replace HA := HA.up hbk; replace HC := HC.up hbk; replace HD := HD.up hbk; replace HB := HB.up hbk)); clear ha_0 ha_1 ha_2 hc_0 hc_1 hc_2 hd_0 hd_1 hd_2 lha lhc lhd; have ha_0 := HA.c0; have ha_1 := HA.c1; have ha_2 := HA.c2; have hc_0 := HC.c0; have hc_1 := HC.c1; have hc_2 := HC.c2; have hd_0 := HD.c0; have hd_1 := HD.c1; have hd_2 := HD.c2; have lha := HA.lt; have lhc := HC.lt; have lhd := HD.lt) | fail)
    go_ret
    exact ⟨rfl, HB⟩
  | false =>
    have d1 := HX2.out (by trivial)
    refine wp_region_held_drew (S := fun w' => w'.cell? ⟨pa, 0, none⟩ = some (.string p1) ∧ w'.cell? ⟨pa, 1, none⟩ = some (.string n1) ∧ w'.cell? ⟨pa, 2, none⟩ = some (.int .i64 k1) ∧ w'.cell? ⟨pb, 0, none⟩ = some (.string p2) ∧ w'.cell? ⟨pb, 1, none⟩ = some (.string n2) ∧ w'.cell? ⟨pb, 2, none⟩ = some (.int .i64 k2)) (by kernel_rfl) ?_ (fun hHeld => ?_)
    · exact ⟨HA.c0, HA.c1, HA.c2, HC.c0, HC.c1, HC.c2⟩
    generalize w1.drew = Wd at *
    (refine wpAnyH_take (i := 0) (v := ?_) rfl (by decide +kernel) (by decide +kernel) (by decide +kernel) (fun _ _ _ h => h) (Or.inl ⟨by rfl, ?_⟩) (by assumption) ?_; rotate_left; (focus ((intro w hSw; (try dsimp only at hSw); go_simp); (try (with_reducible rfl)); done)); (try simp only [List.getElem_toArray, List.getElem_cons_zero, List.getElem_cons_succ, Act.put, List.setIfInBounds_toArray, List.set_cons_zero, List.set_cons_succ]))
    (refine wpAnyH_take (i := 1) (v := ?_) rfl (by decide +kernel) (by decide +kernel) (by decide +kernel) (fun _ _ _ h => h) (Or.inl ⟨by rfl, ?_⟩) (by assumption) ?_; rotate_left; (focus ((intro w hSw; (try dsimp only at hSw); go_simp); (try (with_reducible rfl)); done)); (try simp only [List.getElem_toArray, List.getElem_cons_zero, List.getElem_cons_succ, Act.put, List.setIfInBounds_toArray, List.set_cons_zero, List.set_cons_succ]))
    (refine wpAnyH_take (i := 2) (v := ?_) rfl (by decide +kernel) (by decide +kernel) (by decide +kernel) (fun _ _ _ h => h) (Or.inl ⟨by rfl, ?_⟩) (by assumption) ?_; rotate_left; (focus ((intro w hSw; (try dsimp only at hSw); go_simp); (try (with_reducible rfl)); done)); (try simp only [List.getElem_toArray, List.getElem_cons_zero, List.getElem_cons_succ, Act.put, List.setIfInBounds_toArray, List.set_cons_zero, List.set_cons_succ]))
    (refine wpAnyH_take (i := 3) (v := ?_) rfl (by decide +kernel) (by decide +kernel) (by decide +kernel) (fun _ _ _ h => h) (Or.inl ⟨by rfl, ?_⟩) (by assumption) ?_; rotate_left; (focus ((intro w hSw; (try dsimp only at hSw); go_simp); (try (with_reducible rfl)); done)); (try simp only [List.getElem_toArray, List.getElem_cons_zero, List.getElem_cons_succ, Act.put, List.setIfInBounds_toArray, List.set_cons_zero, List.set_cons_succ]))
    (refine wpAnyH_take (i := 4) (v := ?_) rfl (by decide +kernel) (by decide +kernel) (by decide +kernel) (fun _ _ _ h => h) (Or.inl ⟨by rfl, ?_⟩) (by assumption) ?_; rotate_left; (focus ((intro w hSw; (try dsimp only at hSw); go_simp); (try (with_reducible rfl)); done)); (try simp only [List.getElem_toArray, List.getElem_cons_zero, List.getElem_cons_succ, Act.put, List.setIfInBounds_toArray, List.set_cons_zero, List.set_cons_succ]))
    (refine wpAnyH_take (i := 5) (v := ?_) rfl (by decide +kernel) (by decide +kernel) (by decide +kernel) (fun _ _ _ h => h) (Or.inl ⟨by rfl, ?_⟩) (by assumption) ?_; rotate_left; (focus ((intro w hSw; (try dsimp only at hSw); go_simp); (try (with_reducible rfl)); done)); (try simp only [List.getElem_toArray, List.getElem_cons_zero, List.getElem_cons_succ, Act.put, List.setIfInBounds_toArray, List.set_cons_zero, List.set_cons_succ]))
    (refine wpAnyH_take (i := 7) (v := ?_) rfl (by decide +kernel) (by decide +kernel) (by decide +kernel) (fun _ _ _ h => h) (Or.inl ⟨by rfl, ?_⟩) (by assumption) ?_; rotate_left; (focus ((intro w hSw; (try dsimp only at hSw); go_simp); (try (with_reducible rfl)); done)); (try simp only [List.getElem_toArray, List.getElem_cons_zero, List.getElem_cons_succ, Act.put, List.setIfInBounds_toArray, List.set_cons_zero, List.set_cons_succ]))
    (refine wpAnyH_take (i := 8) (v := ?_) rfl (by decide +kernel) (by decide +kernel) (by decide +kernel) (fun _ _ _ h => h) (Or.inl ⟨by rfl, ?_⟩) (by assumption) ?_; rotate_left; (focus ((intro w hSw; (try dsimp only at hSw); go_simp); (try (with_reducible rfl)); done)); (try simp only [List.getElem_toArray, List.getElem_cons_zero, List.getElem_cons_succ, Act.put, List.setIfInBounds_toArray, List.set_cons_zero, List.set_cons_succ]))
    (refine wpAnyH_ready (rs := [6]) (by decide +kernel) (by simp) ?_; refine AllReadyH.cons rfl (fun K hK => ?_) AllReadyH.nil; go_simp; (go_at_call 12; (with_reducible refine (C1.out _).mono ?_); rintro e w2 ⟨rfl, hb⟩; have hbk := hb.hid; (with_reducible (replace HA := HA.up hbk; replace HC := HC.up hbk; replace HD := HD.up hbk; replace HB := HB.up hbk))); (try (go_wp2_with fail)); refine hK.out _ _ ?_ (fun hHeld => ?_); (focus ((try dsimp only); (with_reducible exact ⟨HA.c0, HA.c1, HA.c2, HC.c0, HC.c1, HC.c2⟩))); clear hK K; (try simp only [List.getElem_toArray, List.getElem_cons_zero, List.getElem_cons_succ, Act.put, List.setIfInBounds_toArray, List.set_cons_zero, List.set_cons_succ]))
    (refine wpAnyH_ready (rs := [9]) (by decide +kernel) (by simp) ?_; refine AllReadyH.cons rfl (fun K hK => ?_) AllReadyH.nil; go_simp; (go_at_call 12; (with_reducible refine (C2.out _).mono ?_); rintro e w3 ⟨rfl, hb⟩; have hbk := hb.hid; (with_reducible (replace HA := HA.up hbk; replace HC := HC.up hbk; replace HD := HD.up hbk; replace HB := HB.up hbk))); (try (go_wp2_with fail)); refine hK.out _ _ ?_ (fun hHeld => ?_); (focus ((try dsimp only); (with_reducible exact ⟨HA.c0, HA.c1, HA.c2, HC.c0, HC.c1, HC.c2⟩))); clear hK K; (try simp only [List.getElem_toArray, List.getElem_cons_zero, List.getElem_cons_succ, Act.put, List.setIfInBounds_toArray, List.set_cons_zero, List.set_cons_succ]))
    (refine wpAnyH_take (i := 10) (v := ?_) rfl (by decide +kernel) (by decide +kernel) (by decide +kernel) (fun _ _ _ h => h) (Or.inl ⟨by rfl, ?_⟩) (by assumption) ?_; rotate_left; (focus ((intro w hSw; (try dsimp only at hSw); go_simp); (try (with_reducible rfl)); done)); (try simp only [List.getElem_toArray, List.getElem_cons_zero, List.getElem_cons_succ, Act.put, List.setIfInBounds_toArray, List.set_cons_zero, List.set_cons_succ]))
    (refine wpAnyH_take (i := 11) (v := ?_) rfl (by decide +kernel) (by decide +kernel) (by decide +kernel) (fun _ _ _ h => h) (Or.inl ⟨by rfl, ?_⟩) (by assumption) ?_; rotate_left; (focus ((intro w hSw; (try dsimp only at hSw); go_simp); (try (with_reducible rfl)); done)); (try simp only [List.getElem_toArray, List.getElem_cons_zero, List.getElem_cons_succ, Act.put, List.setIfInBounds_toArray, List.set_cons_zero, List.set_cons_succ]))
    (refine wpAnyH_take (i := 12) (v := ?_) rfl (by decide +kernel) (by decide +kernel) (by decide +kernel) (fun _ _ _ h => h) (Or.inl ⟨by rfl, ?_⟩) (by assumption) ?_; rotate_left; (focus ((intro w hSw; (try dsimp only at hSw); go_simp); (try (with_reducible rfl)); done)); (try simp only [List.getElem_toArray, List.getElem_cons_zero, List.getElem_cons_succ, Act.put, List.setIfInBounds_toArray, List.set_cons_zero, List.set_cons_succ]))
    (refine wpAnyH_take (i := 13) (v := ?_) rfl (by decide +kernel) (by decide +kernel) (by decide +kernel) (fun _ _ _ h => h) (Or.inl ⟨by rfl, ?_⟩) (by assumption) ?_; rotate_left; (focus ((intro w hSw; (try dsimp only at hSw); go_simp); (try (with_reducible rfl)); done)); (try simp only [List.getElem_toArray, List.getElem_cons_zero, List.getElem_cons_succ, Act.put, List.setIfInBounds_toArray, List.set_cons_zero, List.set_cons_succ]))
    (refine wpAnyH_take (i := 14) (v := ?_) rfl (by decide +kernel) (by decide +kernel) (by decide +kernel) (fun _ _ _ h => h) (Or.inl ⟨by rfl, ?_⟩) (by assumption) ?_; rotate_left; (focus ((intro w hSw; (try dsimp only at hSw); go_simp); (try (with_reducible rfl)); done)); (try simp only [List.getElem_toArray, List.getElem_cons_zero, List.getElem_cons_succ, Act.put, List.setIfInBounds_toArray, List.set_cons_zero, List.set_cons_succ]))
    (refine wpAnyH_take (i := 15) (v := ?_) rfl (by decide +kernel) (by decide +kernel) (by decide +kernel) (fun _ _ _ h => h) (Or.inl ⟨by rfl, ?_⟩) (by assumption) ?_; rotate_left; (focus ((intro w hSw; (try dsimp only at hSw); go_simp); (try (with_reducible rfl)); done)); (try simp only [List.getElem_toArray, List.getElem_cons_zero, List.getElem_cons_succ, Act.put, List.setIfInBounds_toArray, List.set_cons_zero, List.set_cons_succ]))
    (refine wpAnyH_take (i := 16) (v := ?_) rfl (by decide +kernel) (by decide +kernel) (by decide +kernel) (fun _ _ _ h => h) (Or.inl ⟨by rfl, ?_⟩) (by assumption) ?_; rotate_left; (focus ((intro w hSw; (try dsimp only at hSw); go_simp); (try (with_reducible rfl)); done)); (try simp only [List.getElem_toArray, List.getElem_cons_zero, List.getElem_cons_succ, Act.put, List.setIfInBounds_toArray, List.set_cons_zero, List.set_cons_succ]))
    (refine wpAnyH_take (i := 17) (v := undef) rfl (by decide +kernel) (by decide +kernel) (by decide +kernel) (fun _ _ _ h => h) (Or.inr ⟨by rfl, rfl⟩) (by assumption) ?_; (try simp only [List.getElem_toArray, List.getElem_cons_zero, List.getElem_cons_succ, Act.put, List.setIfInBounds_toArray, List.set_cons_zero, List.set_cons_succ]))
    (refine wpAnyH_take (i := 18) (v := undef) rfl (by decide +kernel) (by decide +kernel) (by decide +kernel) (fun _ _ _ h => h) (Or.inr ⟨by rfl, rfl⟩) (by assumption) ?_; (try simp only [List.getElem_toArray, List.getElem_cons_zero, List.getElem_cons_succ, Act.put, List.setIfInBounds_toArray, List.set_cons_zero, List.set_cons_succ]))
    (refine wpAnyH_take (i := 19) (v := undef) rfl (by decide +kernel) (by decide +kernel) (by decide +kernel) (fun _ _ _ h => h) (Or.inr ⟨by rfl, rfl⟩) (by assumption) ?_; (try simp only [List.getElem_toArray, List.getElem_cons_zero, List.getElem_cons_succ, Act.put, List.setIfInBounds_toArray, List.set_cons_zero, List.set_cons_succ]))
    (refine wpAnyH_take (i := 20) (v := ?_) rfl (by decide +kernel) (by decide +kernel) (by decide +kernel) (fun _ _ _ h => h) (Or.inl ⟨by rfl, ?_⟩) (by assumption) ?_; rotate_left; (focus ((intro w hSw; (try dsimp only at hSw); go_simp); (try (with_reducible rfl)); done)); (try simp only [List.getElem_toArray, List.getElem_cons_zero, List.getElem_cons_succ, Act.put, List.setIfInBounds_toArray, List.set_cons_zero, List.set_cons_succ]))
    (refine wpAnyH_take (i := 21) (v := ?_) rfl (by decide +kernel) (by decide +kernel) (by decide +kernel) (fun _ _ _ h => h) (Or.inl ⟨by rfl, ?_⟩) (by assumption) ?_; rotate_left; (focus ((intro w hSw; (try dsimp only at hSw); go_simp); (try (with_reducible rfl)); done)); (try simp only [List.getElem_toArray, List.getElem_cons_zero, List.getElem_cons_succ, Act.put, List.setIfInBounds_toArray, List.set_cons_zero, List.set_cons_succ]))
    refine wpAnyH_done (by decide +kernel) ?_ _
    clear d1
    go_upto_region 5 with fail
    cases x with
    | false =>
      have ha_0 := HA.c0
      have ha_1 := HA.c1
      have ha_2 := HA.c2
      have hc_0 := HC.c0
      have hc_1 := HC.c1
      have hc_2 := HC.c2
      have hd_0 := HD.c0
      have hd_1 := HD.c1
      have hd_2 := HD.c2
      have lha := HA.lt
      have lhc := HC.lt
      have lhd := HD.lt
      go_wp2_with (first | (go_at_call 12; (with_reducible refine (C1.out _).mono ?_); rintro e z1 ⟨rfl, hb⟩; have hbk := hb.hid; (with_reducible (replace HA := HA.up hbk; replace HC := HC.up hbk; replace HD := HD.up hbk; replace HB := HB.up hbk)); clear ha_0 ha_1 ha_2 hc_0 hc_1 hc_2 hd_0 hd_1 hd_2 lha lhc lhd; have ha_0 := HA.c0; have ha_1 := HA.c1; have ha_2 := HA.c2; have hc_0 := HC.c0; have hc_1 := HC.c1; have hc_2 := HC.c2; have hd_0 := HD.c0; have hd_1 := HD.c1; have hd_2 := HD.c2; have lha := HA.lt; have lhc := HC.lt; have lhd := HD.lt) | (go_at_call 12; (with_reducible refine (C3.out _).mono ?_); rintro e z2 ⟨rfl, hb⟩; have hbk := hb.hid; (with_reducible (replace HA := HA.up hbk; replace HC := HC.up hbk; replace HD := HD.up hbk; replace HB := HB.up hbk)); clear ha_0 ha_1 ha_2 hc_0 hc_1 hc_2 hd_0 hd_1 hd_2 lha lhc lhd; have ha_0 := HA.c0; have ha_1 := HA.c1; have ha_2 := HA.c2; have hc_0 := HC.c0; have hc_1 := HC.c1; have hc_2 := HC.c2; have hd_0 := HD.c0; have hd_1 := HD.c1; have hd_2 := HD.c2; have lha := HA.lt; have lhc := HC.lt; have lhd := HD.lt) | (go_at_call 12; (with_reducible refine (C4.out _).mono ?_); rintro e z3 ⟨rfl, hb⟩; have hbk := hb.hid; (with_reducible (replace HA := HA.up hbk; replace HC := HC.up hbk; replace HD := HD.up hbk; replace HB := HB.up hbk)); clear ha_0 ha_1 ha_2 hc_0 hc_1 hc_2 hd_0 hd_1 hd_2 lha lhc lhd; have ha_0 := HA.c0; have ha_1 := HA.c1; have ha_2 := HA.c2; have hc_0 := HC.c0; have hc_1 := HC.c1; have hc_2 := HC.c2; have hd_0 := HD.c0; have hd_1 := HD.c1; have hd_2 := HD.c2; have lha := HA.lt; have lhc := HC.lt; have lhd := HD.lt) | fail)
      go_ret
      exact ⟨rfl, HB⟩
    | true =>
      cases z with
      | false =>
        have ha_0 := HA.c0
        have ha_1 := HA.c1
        have ha_2 := HA.c2
        have hc_0 := HC.c0
        have hc_1 := HC.c1
        have hc_2 := HC.c2
        have hd_0 := HD.c0
        have hd_1 := HD.c1
        have hd_2 := HD.c2
        have lha := HA.lt
        have lhc := HC.lt
        have lhd := HD.lt
        go_wp2_with (first | (go_at_call 12; (with_reducible refine (C1.out _).mono ?_); rintro e z1 ⟨rfl, hb⟩; have hbk := hb.hid; (with_reducible (replace HA := HA.up hbk; replace HC := HC.up hbk; replace HD := HD.up hbk; replace HB := HB.up hbk)); clear ha_0 ha_1 ha_2 hc_0 hc_1 hc_2 hd_0 hd_1 hd_2 lha lhc lhd; have ha_0 := HA.c0; have ha_1 := HA.c1; have ha_2 := HA.c2; have hc_0 := HC.c0; have hc_1 := HC.c1; have hc_2 := HC.c2; have hd_0 := HD.c0; have hd_1 := HD.c1; have hd_2 := HD.c2; have lha := HA.lt; have lhc := HC.lt; have lhd := HD.lt) | (go_at_call 12; (with_reducible refine (C3.out _).mono ?_); rintro e z2 ⟨rfl, hb⟩; have hbk := hb.hid; (with_reducible (replace HA := HA.up hbk; replace HC := HC.up hbk; replace HD := HD.up hbk; replace HB := HB.up hbk)); clear ha_0 ha_1 ha_2 hc_0 hc_1 hc_2 hd_0 hd_1 hd_2 lha lhc lhd; have ha_0 := HA.c0; have ha_1 := HA.c1; have ha_2 := HA.c2; have hc_0 := HC.c0; have hc_1 := HC.c1; have hc_2 := HC.c2; have hd_0 := HD.c0; have hd_1 := HD.c1; have hd_2 := HD.c2; have lha := HA.lt; have lhc := HC.lt; have lhd := HD.lt) | (go_at_call 12; (with_reducible refine (C4.out _).mono ?_); rintro e z3 ⟨rfl, hb⟩; have hbk := hb.hid; (with_reducible (replace HA := HA.up hbk; replace HC := HC.up hbk; replace HD := HD.up hbk; replace HB := HB.up hbk)); clear ha_0 ha_1 ha_2 hc_0 hc_1 hc_2 hd_0 hd_1 hd_2 lha lhc lhd; have ha_0 := HA.c0; have ha_1 := HA.c1; have ha_2 := HA.c2; have hc_0 := HC.c0; have hc_1 := HC.c1; have hc_2 := HC.c2; have hd_0 := HD.c0; have hd_1 := HD.c1; have hd_2 := HD.c2; have lha := HA.lt; have lhc := HC.lt; have lhd := HD.lt) | fail)
        go_ret
        exact ⟨rfl, HB⟩
      | true =>
        obtain rfl : v = true := HX3.out (by trivial) (by trivial)
        have ha_0 := HA.c0
        have ha_1 := HA.c1
        have ha_2 := HA.c2
        have hc_0 := HC.c0
        have hc_1 := HC.c1
        have hc_2 := HC.c2
        have hd_0 := HD.c0
        have hd_1 := HD.c1
        have hd_2 := HD.c2
        have lha := HA.lt
        have lhc := HC.lt
        have lhd := HD.lt
        go_wp2_with (first | (go_at_call 12; (with_reducible refine (C1.out _).mono ?_); rintro e z1 ⟨rfl, hb⟩; have hbk := hb.hid; (with_reducible (replace HA := HA.up hbk; replace HC := HC.up hbk; replace HD := HD.up hbk; replace HB := HB.up hbk)); clear ha_0 ha_1 ha_2 hc_0 hc_1 hc_2 hd_0 hd_1 hd_2 lha lhc lhd; have ha_0 := HA.c0; have ha_1 := HA.c1; have ha_2 := HA.c2; have hc_0 := HC.c0; have hc_1 := HC.c1; have hc_2 := HC.c2; have hd_0 := HD.c0; have hd_1 := HD.c1; have hd_2 := HD.c2; have lha := HA.lt; have lhc := HC.lt; have lhd := HD.lt) | (go_at_call 12; (with_reducible refine (C3.out _).mono ?_); rintro e z2 ⟨rfl, hb⟩; have hbk := hb.hid; (with_reducible (replace HA := HA.up hbk; replace HC := HC.up hbk; replace HD := HD.up hbk; replace HB := HB.up hbk)); clear ha_0 ha_1 ha_2 hc_0 hc_1 hc_2 hd_0 hd_1 hd_2 lha lhc lhd; have ha_0 := HA.c0; have ha_1 := HA.c1; have ha_2 := HA.c2; have hc_0 := HC.c0; have hc_1 := HC.c1; have hc_2 := HC.c2; have hd_0 := HD.c0; have hd_1 := HD.c1; have hd_2 := HD.c2; have lha := HA.lt; have lhc := HC.lt; have lhd := HD.lt) | (go_at_call 12; (with_reducible refine (C4.out _).mono ?_); rintro e z3 ⟨rfl, hb⟩; have hbk := hb.hid; (with_reducible (replace HA := HA.up hbk; replace HC := HC.up hbk; replace HD := HD.up hbk; replace HB := HB.up hbk)); clear ha_0 ha_1 ha_2 hc_0 hc_1 hc_2 hd_0 hd_1 hd_2 lha lhc lhd; have ha_0 := HA.c0; have ha_1 := HA.c1; have ha_2 := HA.c2; have hc_0 := HC.c0; have hc_1 := HC.c1; have hc_2 := HC.c2; have hd_0 := HD.c0; have hd_1 := HD.c1; have hd_2 := HD.c2; have lha := HA.lt; have lhc := HC.lt; have lhd := HD.lt) | fail)
        go_ret
        exact ⟨rfl, HB⟩
theorem aorder_any (p1 n1 p2 n2 p3 n3 : ByteArray) (k1 k2 k3 : Int) (w : World) : Calls Tryd.prog 6 #[.agg #[.string p1, .string n1, .int .i64 k1], .agg #[.string p2, .string n2, .int .i64 k2], .agg #[.string p3, .string n3, .int .i64 k3]] w (RetB w true) :=
  aorder_w w (khide awake9_h) (khide (less_any p1 n1 k1 p2 n2 k2)) (khide (less_any p2 n2 k2 p1 n1 k1)) (khide (less_any p2 n2 k2 p3 n3 k3)) (khide (less_any p1 n1 k1 p3 n3 k3)) (fun W => aeq W p1 n1 k1 p2 n2 k2) (fun W => aneq W p1 n1 k1 p2 n2 k2) lessB_eq lessB_tri lessB_tr
/-- As the card has it. -/
theorem aorder_all {C1 C2 C3 : Prop} (w : World) (p1 n1 : ByteArray) (k1 : Int) (_ : C1) (p2 n2 : ByteArray) (k2 : Int) (_ : C2) (p3 n3 : ByteArray) (k3 : Int) (_ : C3) : Calls Tryd.prog 6 #[.agg #[.string p1, .string n1, .int .i64 k1], .agg #[.string p2, .string n2, .int .i64 k2], .agg #[.string p3, .string n3, .int .i64 k3]] w (fun e w' => e = .returned (.bool true) ∧ Below w.heap.size w w') := aorder_any p1 n1 p2 n2 p3 n3 k1 k2 k3 w
end Go.Proofs.YtkjcnpckajpogaaDoor
