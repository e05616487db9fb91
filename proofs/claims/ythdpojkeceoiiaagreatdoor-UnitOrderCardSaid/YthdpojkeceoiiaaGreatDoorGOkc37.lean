/- Several texts in one, each with its own sentence and conditions. -/
import Derived.Test.YthdpojkeceoiiaaGreatDoorGOkc36
import Derived.Test.YthdpojkeceoiiaaGreatDoorGOkc34
import Derived.Test.YthdpojkeceoiiaaGreatDoorJu
import Derived.BigQuiet
import Derived.Deep.RegionHeld
section
/- What a unit that may be holds; two lists of the same atoms are put together alike. No conditions. -/
open Go.RowKit
set_option maxRecDepth 100000
namespace Go.Proofs.YthdpojkeceoiiaaGreatDoor
def PowB (l : List AL) : Prop := ∀ a ∈ l, 0 ≤ a.2.2 ∧ a.2.2 ≤ 15
theorem parseA_k (names ps l : List ByteArray) : (parseA names ps l).k ≤ 15 := by
  unfold parseA
  split
  · exact Nat.zero_le _
  · unfold parseU
    split
    · show (leadP l).1 ≤ 15
      rcases leadP_form l with h | ⟨_, _, _, h, _, h1, _⟩
      · rw [h]; decide
      · rw [h]; show powOf _ ≤ 15; omega
    · exact Nat.zero_le _
theorem atomsF_pow {names ps : List ByteArray} : ∀ (f : Nat) {l : List ByteArray} {r : List AL}, atomsF names ps f l = some r → PowB r
  | f, [], r, h => by
    cases f <;> (injection h with h; subst h; intro a ha; cases ha)
  | 0, u :: l, r, h => by cases h
  | f + 1, u :: l, r, h => by
    unfold atomsF at h
    split at h
    · cases hh : atomsF names ps f ((u :: l).drop (parseA names ps (u :: l)).t) with
      | none => rw [hh] at h; cases h
      | some r' =>
        rw [hh] at h
        injection h with h
        subst h
        intro a ha
        rcases List.mem_cons.1 ha with rfl | ha
        · have := parseA_k names ps (u :: l)
          show (0 : Int) ≤ ((parseA names ps (u :: l)).k : Int) ∧ ((parseA names ps (u :: l)).k : Int) ≤ 15
          omega
        · exact atomsF_pow f hh a ha
    · cases h
theorem atomsL_pow {names ps l : List ByteArray} {r : List AL} (h : atomsL names ps l = some r) : PowB r := atomsF_pow _ h
theorem partC_pow {names ps : List ByteArray} {css : List (List ByteArray)} {p : PL} (h : partC names ps css = some p) : PowB p.1 ∧ PowB p.2.1 := by
  match css, h with
  | [], h => cases h
  | _ :: _ :: _ :: _, h => cases h
  | [a], h =>
    rw [partC_sole] at h
    cases hr : atomsL names ps a with
    | none => rw [hr] at h; cases h
    | some r =>
      rw [hr] at h
      simp only [Option.bind_some] at h
      by_cases h1 : 0 < r.length ∧ r.length ≤ 8
      · rw [if_pos h1] at h
        injection h with h
        subst h
        exact ⟨atomsL_pow hr, fun a ha => by cases ha⟩
      · rw [if_neg h1] at h; cases h
  | [a, d], h =>
    rw [partC_two] at h
    by_cases h0 : d = []
    · rw [if_pos h0] at h; cases h
    · rw [if_neg h0] at h
      cases hr : atomsL names ps a with
      | none => rw [hr] at h; cases h
      | some r =>
        cases hs : atomsL names ps (headD d).2 with
        | none => rw [hr, hs] at h; cases h
        | some s =>
          rw [hr, hs] at h
          simp only [Option.bind_some] at h
          by_cases h1 : r.length + s.length ≤ 8
          · rw [if_pos h1] at h
            injection h with h
            subst h
            exact ⟨atomsL_pow hr, atomsL_pow hs⟩
          · rw [if_neg h1] at h; cases h
theorem partsL_pow {names ps : List ByteArray} : ∀ {css : List (List ByteArray)} {r : List PL}, partsL names ps css = some r → ∀ p ∈ r, PowB p.1 ∧ PowB p.2.1
  | [], r, h => by injection h with h; subst h; intro p hp; cases hp
  | b :: css, r, h => by
    unfold partsL at h
    cases hb : partD names ps b with
    | none => rw [hb] at h; cases h
    | some q =>
      cases ht : partsL names ps css with
      | none => rw [hb, ht] at h; cases h
      | some r' =>
        rw [hb, ht] at h
        injection h with h
        rw [← h]
        intro p hp
        rcases List.mem_cons.1 hp with rfl | hp
        · exact partC_pow hb
        · exact partsL_pow ht p hp
/-- The atoms of a unit that may be have small powers, and it is not too great. -/
theorem good_pow {names ps : List ByteArray} {qs : List QL} (hw : ∀ q ∈ qs, Good32 q.2.2) (h : goodU names ps qs = true) : qs.any greatQ = false ∧ ∀ q ∈ qs, PowB q.1 ∧ PowB q.2.1 := by
  unfold goodU at h
  simp only [Bool.and_eq_true, decide_eq_true_eq, Bool.not_eq_true'] at h
  obtain ⟨_, h2, h3⟩ := h
  refine ⟨h2, ?_⟩
  cases hd : unitD names ps (unitS (qs.map toP)) with
  | error v => rw [hd] at h3; cases h3
  | ok r =>
    rw [hd] at h3
    obtain ⟨_, _, k3, _⟩ := unitD_ok hd
    have hok := partsL_ok k3
    obtain ⟨e, _⟩ := (sameQs_iff hw (fun p hp => (hok p hp).1)).1 h3
    intro q hq
    exact partsL_pow k3 (toP q) (by rw [e]; exact List.mem_map.2 ⟨q, hq, rfl⟩)
theorem PowB.pows {l : List AL} (h : PowB l) : PowsQ l := fun a ha => by have := h a ha; omega
theorem combL_perm {l m : List AL} (h : l.Perm m) : combL l = combL m := by unfold combL; rw [sortQ_unique h]
/-- All that is put together has a prefix and a name of the list's. -/
theorem foldQ_mem : ∀ {s acc r : List AL}, foldQ acc s = some r → r.length ≤ acc.length + s.length ∧ ∀ a ∈ r, (∃ b ∈ acc, b.1 = a.1 ∧ b.2.1 = a.2.1) ∨ ∃ b ∈ s, b.1 = a.1 ∧ b.2.1 = a.2.1
  | [], acc, r, h => by
    injection h with h; subst h
    exact ⟨by simp, fun a ha => .inl ⟨a, ha, rfl, rfl⟩⟩
  | x :: s, acc, r, h => by
    rw [foldQ] at h
    cases hx : addQ acc x with
    | none => rw [hx] at h; cases h
    | some acc' =>
      rw [hx] at h
      obtain ⟨h1, h2⟩ := foldQ_mem h
      have key : acc'.length ≤ acc.length + 1 ∧ ∀ a ∈ acc', (∃ b ∈ acc, b.1 = a.1 ∧ b.2.1 = a.2.1) ∨ (x.1 = a.1 ∧ x.2.1 = a.2.1) := by
        rcases list_last acc with ha | ⟨acc0, q, ha⟩
        · subst ha
          rw [addQ_nil] at hx
          injection hx with hx
          subst hx
          exact ⟨by simp, fun a ha => .inr (by simp at ha; subst ha; exact ⟨rfl, rfl⟩)⟩
        · subst ha
          by_cases he : q.1 = x.1 ∧ q.2.1 = x.2.1
          · by_cases hp : 15 < q.2.2 + x.2.2
            · rw [addQ_long he hp] at hx; cases hx
            · rw [addQ_sum he hp] at hx
              injection hx with hx
              subst hx
              refine ⟨by simp, fun a ha => ?_⟩
              rcases List.mem_append.1 ha with ha | ha
              · exact .inl ⟨a, by simp [ha], rfl, rfl⟩
              · obtain rfl := List.mem_singleton.1 ha
                exact .inr ⟨he.1.symm, he.2.symm⟩
          · rw [addQ_ne he] at hx
            injection hx with hx
            subst hx
            refine ⟨by simp, fun a ha => ?_⟩
            rcases List.mem_append.1 ha with ha | ha
            · exact .inl ⟨a, ha, rfl, rfl⟩
            · obtain rfl := List.mem_singleton.1 ha
              exact .inr ⟨rfl, rfl⟩
      refine ⟨by simp only [List.length_cons]; omega, fun a ha => ?_⟩
      rcases h2 a ha with ⟨b, hb, e1, e2⟩ | ⟨b, hb, e1, e2⟩
      · rcases key.2 b hb with ⟨b', hb', e3, e4⟩ | ⟨e3, e4⟩
        · exact .inl ⟨b', hb', e3.trans e1, e4.trans e2⟩
        · exact .inr ⟨x, by simp, e3.trans e1, e4.trans e2⟩
      · exact .inr ⟨b, by simp [hb], e1, e2⟩
theorem combL_mem {l r : List AL} (h : combL l = some r) : r.length ≤ l.length ∧ ∀ a ∈ r, ∃ b ∈ l, b.1 = a.1 ∧ b.2.1 = a.2.1 := by
  obtain ⟨h1, h2⟩ := foldQ_mem h
  rw [sortQ_len] at h1
  refine ⟨by simpa using h1, fun a ha => ?_⟩
  rcases h2 a ha with ⟨b, hb, _⟩ | ⟨b, hb, e⟩
  · cases hb
  · exact ⟨b, ((sortQ_facts l).1.mem_iff).1 hb, e⟩
theorem longA_of {a b : AL} (h1 : b.1 = a.1) (h2 : b.2.1 = a.2.1) : longA a = longA b := by unfold longA; rw [h1, h2]
theorem any_long {l r : List AL} (h : combL l = some r) (hl : l.any longA = false) : r.any longA = false := by
  rw [Bool.eq_false_iff]
  intro h9
  obtain ⟨a, ha, ha2⟩ := List.any_eq_true.1 h9
  obtain ⟨b, hb, e1, e2⟩ := (combL_mem h).2 a ha
  rw [longA_of e1 e2] at ha2
  exact List.any_eq_false.1 hl b hb ha2
theorem norm_great {q r : QL} (h : normQ q = some r) (hg : greatQ q = false) (hw : Good32 q.2.2) : greatQ r = false ∧ Good32 r.2.2 := by
  obtain ⟨l1, l2, ws⟩ := q
  unfold normQ at h
  cases ha : combL l1 with
  | none => simp only [ha] at h; cases h
  | some a =>
    cases hb : combL l2 with
    | none => simp only [ha, hb] at h; cases h
    | some b =>
      simp only [ha, hb] at h
      injection h with h
      subst h
      unfold greatQ at hg ⊢
      simp only [Bool.or_eq_false_iff, decide_eq_false_iff_not] at hg ⊢
      obtain ⟨g1, g2, g3, g4⟩ := hg
      have m1 := (combL_mem ha).1
      have m2 := (combL_mem hb).1
      refine ⟨⟨?_, by omega, any_long ha g3, any_long hb g4⟩, digs_good _⟩
      have hv : val W32 ws < W32 ^ 3 := Nat.lt_of_lt_of_le (val_lt _ hw) (Nat.pow_le_pow_right (by decide) (by omega))
      have := dl_le (k := 3) hv
      show ¬ 3 < dl (val W32 ws)
      omega
theorem normQs_great : ∀ {qs rs : List QL}, normQs qs = some rs → qs.any greatQ = false → (∀ q ∈ qs, Good32 q.2.2) → rs.length = qs.length ∧ rs.any greatQ = false ∧ ∀ r ∈ rs, Good32 r.2.2
  | [], rs, h, _, _ => by injection h with h; subst h; exact ⟨rfl, rfl, fun r hr => by cases hr⟩
  | q :: qs, rs, h, hg, hw => by
    unfold normQs at h
    cases hq : normQ q with
    | none => rw [hq] at h; cases h
    | some r =>
      cases ht : normQs qs with
      | none => rw [hq, ht] at h; cases h
      | some rs' =>
        rw [hq, ht] at h
        injection h with h
        subst h
        rw [List.any_cons, Bool.or_eq_false_iff] at hg
        obtain ⟨e1, e2, e3⟩ := normQs_great ht hg.2 (fun q hq => hw q (List.mem_cons_of_mem _ hq))
        obtain ⟨f1, f2⟩ := norm_great hq hg.1 (hw q (by simp))
        refine ⟨by simp [e1], by rw [List.any_cons, f1, e2]; rfl, fun r' hr => ?_⟩
        rcases List.mem_cons.1 hr with rfl | hr
        · exact f2
        · exact e3 r' hr
theorem fitA_swap {l : List AL} {i k : Nat} (hi : i < l.length) (hk : k < l.length) : ((l.set i l[k]).set k l[i]).Perm l := List.set_set_perm hi hk
end Go.Proofs.YthdpojkeceoiiaaGreatDoor
end

section
/- The law UnitOrder. Conditions: prefixes and names that any machine can reach. -/
open Go.RowKit
set_option maxRecDepth 100000
namespace Go.Proofs.YthdpojkeceoiiaaGreatDoor
section
variable {A : Option Addr} {n c : Nat} {l : List AL} {w : World}
set_option maxHeartbeats 4000000 in
theorem uorder_aside {i k : Int} (h : (n : Int) < 1 ∨ 6 < (n : Int) ∨ i < 0 ∨ k < 0 ∨ (n : Int) ≤ i ∨ (n : Int) ≤ k) : Calls Tryz.prog 6 #[.slice A n c, .int .i64 i, .int .i64 k] w (RetB w true) := by
  have CA : Hid (∀ W : World, Calls Tryz.prog 7 #[] W (RetB W true)) := awake10_h
  have HB := Bel.refl w
  by_cases h0 : (n : Int) < 1
  · have d0 : decide ((n : Int) < 1) = true := decide_eq_true h0
    clear h h0
    go_enter Tryz.func6, Tryz.ntmps6
    go_wp2_with (first | (go_at_call 7; (with_reducible refine (CA.out _).mono ?_); rintro e w1 ⟨rfl, hb⟩; (replace HB := HB.up hb.hid)) | fail)
    go_ret
    exact ⟨rfl, HB⟩
  have d0 : decide ((n : Int) < 1) = false := decide_eq_false h0
  by_cases h1 : (6 : Int) < (n : Int)
  · have d1 : decide ((6 : Int) < (n : Int)) = true := decide_eq_true h1
    clear h h1
    go_enter Tryz.func6, Tryz.ntmps6
    go_wp2_with (first | (go_at_call 7; (with_reducible refine (CA.out _).mono ?_); rintro e w1 ⟨rfl, hb⟩; (replace HB := HB.up hb.hid)) | fail)
    go_ret
    exact ⟨rfl, HB⟩
  have d1 : decide ((6 : Int) < (n : Int)) = false := decide_eq_false h1
  by_cases h2 : i < 0
  · have d2 : decide (i < 0) = true := decide_eq_true h2
    clear h h2
    go_enter Tryz.func6, Tryz.ntmps6
    go_wp2_with (first | (go_at_call 7; (with_reducible refine (CA.out _).mono ?_); rintro e w1 ⟨rfl, hb⟩; (replace HB := HB.up hb.hid)) | fail)
    go_ret
    exact ⟨rfl, HB⟩
  have d2 : decide (i < 0) = false := decide_eq_false h2
  by_cases h3 : k < 0
  · have d3 : decide (k < 0) = true := decide_eq_true h3
    clear h h3
    go_enter Tryz.func6, Tryz.ntmps6
    go_wp2_with (first | (go_at_call 7; (with_reducible refine (CA.out _).mono ?_); rintro e w1 ⟨rfl, hb⟩; (replace HB := HB.up hb.hid)) | fail)
    go_ret
    exact ⟨rfl, HB⟩
  have d3 : decide (k < 0) = false := decide_eq_false h3
  by_cases h4 : (n : Int) ≤ i
  · have d4 : decide ((n : Int) ≤ i) = true := decide_eq_true h4
    clear h h4
    go_enter Tryz.func6, Tryz.ntmps6
    go_wp2_with (first | (go_at_call 7; (with_reducible refine (CA.out _).mono ?_); rintro e w1 ⟨rfl, hb⟩; (replace HB := HB.up hb.hid)) | fail)
    go_ret
    exact ⟨rfl, HB⟩
  have d4 : decide ((n : Int) ≤ i) = false := decide_eq_false h4
  by_cases h5 : (n : Int) ≤ k
  · have d5 : decide ((n : Int) ≤ k) = true := decide_eq_true h5
    clear h h5
    go_enter Tryz.func6, Tryz.ntmps6
    go_wp2_with (first | (go_at_call 7; (with_reducible refine (CA.out _).mono ?_); rintro e w1 ⟨rfl, hb⟩; (replace HB := HB.up hb.hid)) | fail)
    go_ret
    exact ⟨rfl, HB⟩
  have d5 : decide ((n : Int) ≤ k) = false := decide_eq_false h5
  omega
theorem part_row {W : World} {b c d : Nat} {A B : Option Addr} {l : List AL} (g1 : Cs W A (cellsA l)) (hc : l.length ≤ c) (g3 : Nm W B (dl 1) d 1) (g4 : At W b [.slice A l.length c, .slice none 0 0, .slice B (dl 1) d]) : Qs W (some ⟨b, 0, none⟩) [(l, [], digs W32 1)] := by
  have hq := q1_mk (l' := []) (A2 := none) (c2 := 0) g1 hc Cs.nil (Nat.le_refl _) g3
  refine fun _ => ⟨_, rfl, g4.lt, fun j q hj => ?_⟩
  have hj0 : j = 0 := by have := (List.getElem?_eq_some_iff.1 hj).1; simp at this; omega
  subst hj0
  simp at hj; subst hj
  refine ⟨_, _, _, ?_, ?_, ?_, hq.out⟩
  · rw [plain_add3]; exact g4.c0
  · rw [plain_add3]; exact g4.c1
  · rw [plain_add3]; exact g4.c2
theorem set_perm {l : List AL} {i k : Nat} {ai ak : AL} (hai : l[i]? = some ai) (hak : l[k]? = some ak) : ((l.set i ak).set k ai).Perm l := by
  obtain ⟨h1, e1⟩ := List.getElem?_eq_some_iff.1 hai
  obtain ⟨h2, e2⟩ := List.getElem?_eq_some_iff.1 hak
  have := List.set_set_perm h1 h2
  rwa [e1, e2] at this
theorem one_normQs {l m : List AL} (h : l.Perm m) : normQs [(l, [], digs W32 1)] = normQs [(m, [], digs W32 1)] := by
  have e : normQ (l, [], digs W32 1) = normQ (m, [], digs W32 1) := by unfold normQ; rw [combL_perm h]
  unfold normQs; rw [e]
/-- What Norm comes to, in one form. -/
abbrev NUn (qs : List QL) (n : Nat) (er : Int) (rs : List QL) : Prop := ∀ (W : World) (A : Option Addr) (c : Nat), Qs W A qs → Calls Tryz.prog 10 #[.agg #[.slice A 1 c]] W (fun e w' => ∃ R d, e = .returned (.tuple #[.agg #[.slice R n d], .int .i64 er]) ∧ Qs w' R rs ∧ Bel W w')
theorem nUn_of {q : QL} {res : Option (List QL)} (hf : FitN q) (hres : normQs [q] = res) : NUn [q] (res.getD []).length (if res.isNone then 11 else 0) (res.getD []) := fun W A c h => by
  refine (norm_any (c := c) h rfl (by show 1 ≤ 1000; decide) (fun q' hq => by obtain rfl := List.mem_singleton.1 hq; exact hf) hres).mono fun e w' h9 => ?_
  cases res with
  | none => exact ⟨none, 0, h9.1, Qs.nil, h9.2⟩
  | some r =>
    obtain ⟨g, d, e1, e2, e3⟩ := h9
    exact ⟨_, d, e1, e2, e3⟩
theorem cellsA_set3 {l : List AL} {j : Nat} (h : j < l.length) (a : AL) : (((cellsA l).set (j * 3) (.string a.1)).set (j * 3 + 1) (.string a.2.1)).set (j * 3 + 2) (.int .i64 a.2.2) = cellsA (l.set j a) := by
  induction l generalizing j with
  | nil => simp at h
  | cons b l ih =>
    cases j with
    | zero => rfl
    | succ j =>
      have e : (j + 1) * 3 = j * 3 + 1 + 1 + 1 := by omega
      have := ih (j := j) (by simpa using h)
      rw [e, List.set_cons_succ]
      show (((cellA b ++ cellsA l).set (j * 3 + 1 + 1 + 1) _).set _ _).set _ _ = cellA b ++ cellsA (l.set j a)
      rw [← this]
      rfl
/-- A row of atoms with another atom at a place. -/
theorem own_atom {w : World} {base n c g j : Nat} {l : List AL} (h : w.ownsRow base 59 3 (.slice (some ⟨g, 0, none⟩) n c) n (cellsA l)) (hj : j < l.length) (a : AL) :
    (((w.setCell ⟨g, j * 3, none⟩ (.string a.1)).setCell ⟨g, j * 3 + 1, none⟩ (.string a.2.1)).setCell ⟨g, j * 3 + 2, none⟩ (.int .i64 a.2.2)).ownsRow base 59 3 (.slice (some ⟨g, 0, none⟩) n c) n (cellsA (l.set j a)) := by
  have hl := cellsA_len l
  have h1 := own_set h (i := j * 3) (by omega) (.string a.1)
  have h2 := own_set h1 (i := j * 3 + 1) (by rw [List.length_set]; omega) (.string a.2.1)
  have h3 := own_set h2 (i := j * 3 + 2) (by rw [List.length_set, List.length_set]; omega) (.int .i64 a.2.2)
  rwa [cellsA_set3 hj] at h3
set_option maxHeartbeats 16000000 in
theorem uorder_main (h : Cs w A (cellsA l)) (hn : n = l.length) (hc : n ≤ c) (h1 : 1 ≤ n) (h6 : n ≤ 6) {i k : Nat} (hi : i < n) (hk : k < n) (hf : ∀ a ∈ l, a.1.size + a.2.1.size ≤ 1000000000000000) : Calls Tryz.prog 6 #[.slice A n c, .int .i64 (i : Int), .int .i64 (k : Int)] w (RetB w true) := by
  have CA : Hid (∀ W : World, Calls Tryz.prog 7 #[] W (RetB W true)) := awake10_h
  have CM : Hid (∀ W : World, Calls Tryz.prog 9 #[] W (SomeU W)) := some10_h
  obtain ⟨n1, hn1⟩ : ∃ x, dl 1 = x := ⟨_, rfl⟩
  have CO : Hid (∀ W : World, Calls Tryz.prog 22 #[.int .u64 1] W (fun e w' => ∃ B d, e = .returned (.agg #[.slice B n1 d]) ∧ Nm w' B (dl 1) d 1 ∧ Hid (Below W.heap.size W w'))) := fun W => by
    have := of_h (W := W) (v := 1) (by omega)
    refine this.mono fun e w' ⟨B, d, e1, e2, e3⟩ => ⟨B, d, by rw [e1, hn1], e2, e3⟩
  have HN1 := khide hn1
  obtain ⟨ai, hai⟩ : ∃ a, l[i]? = some a := ⟨l[i]'(by omega), List.getElem?_eq_getElem _⟩
  obtain ⟨ak, hak⟩ : ∃ a, l[k]? = some a := ⟨l[k]'(by omega), List.getElem?_eq_getElem _⟩
  obtain ⟨m, hm⟩ : ∃ m, m = (l.set i ak).set k ai := ⟨_, rfl⟩
  have hperm : m.Perm l := hm ▸ set_perm hai hak
  have HM := khide hm
  obtain ⟨qs, hqs⟩ : ∃ qs : List QL, qs = [((l, [], digs W32 1) : QL)] := ⟨_, rfl⟩
  obtain ⟨ps, hps⟩ : ∃ ps : List QL, ps = [((m, [], digs W32 1) : QL)] := ⟨_, rfl⟩
  have hw : ∀ q ∈ qs, Good32 q.2.2 := fun q hq => by
    rw [hqs] at hq; obtain rfl := List.mem_singleton.1 hq; exact digs_good _
  obtain ⟨gd, hgd⟩ : ∃ g, goodU uN uP qs = g := ⟨_, rfl⟩
  have CG : Hid (∀ (W : World) (A' B' C' : Option Addr) (e : Nat), Ss W A' uN → Ss W B' uP → Qs W C' qs → Calls Tryz.prog 13 #[.agg #[.slice A' 3 3, .slice B' 2 2], .agg #[.slice C' 1 e]] W (RetB W gd)) := fun W A' B' C' e k1 k2 k3 => hgd ▸ ugood_any k1 rfl (by decide) k2 rfl (by decide) k3 (by rw [hqs]; rfl) (fun q hq => by
    rw [hqs] at hq; obtain rfl := List.mem_singleton.1 hq
    exact ⟨⟨by show l.length ≤ _; omega, hf⟩, ⟨Nat.zero_le _, fun a ha => by cases ha⟩⟩) hw
  have CQ : Hid (∀ (W : World) (b : Nat) (B : Option Addr) (d : Nat), Cs W A (cellsA l) → Nm W B (dl 1) d 1 → At W b [.slice A n c, .slice none 0 0, .slice B n1 d] → Qs W (some ⟨b, 0, none⟩) qs) := fun W b B d g1 g3 g4 => by
    rw [hqs]
    rw [hn, ← hn1] at g4
    exact part_row g1 (by omega) g3 g4
  have CQ2 : Hid (∀ (W : World) (b : Nat) (B M : Option Addr) (d c2 : Nat), Cs W M (cellsA m) → n ≤ c2 → Nm W B (dl 1) d 1 → At W b [.slice M n c2, .slice none 0 0, .slice B n1 d] → Qs W (some ⟨b, 0, none⟩) ps) := fun W b B M d c2 g1 g2 g3 g4 => by
    rw [hps]
    have hml : n = m.length := by rw [hperm.length_eq, hn]
    rw [hml, ← hn1] at g4
    exact part_row g1 (by omega) g3 g4
  have HB := Bel.refl w
  have HS := h
  have d0 : decide ((n : Int) < 1) = false := decide_eq_false (by omega)
  have d1 : decide ((6 : Int) < (n : Int)) = false := decide_eq_false (by omega)
  have d2 : decide ((i : Int) < 0) = false := decide_eq_false (by omega)
  have d3 : decide ((k : Int) < 0) = false := decide_eq_false (by omega)
  have d4 : decide ((n : Int) ≤ (i : Int)) = false := decide_eq_false (by omega)
  have d5 : decide ((n : Int) ≤ (k : Int)) = false := decide_eq_false (by omega)
  have d6 : decide (n < 1) = false := decide_eq_false (by omega)
  have d7 : decide (6 < n) = false := decide_eq_false (by omega)
  have d8 : decide (n ≤ i) = false := decide_eq_false (by omega)
  have d9 : decide (n ≤ k) = false := decide_eq_false (by omega)
  have HGF : Hid (gd = true → ∃ (z : Nat) (er : Int) (rs : List QL) (t : ByteArray), NUn qs z er rs ∧ NUn ps z er rs ∧ ∀ (W : World) (R : Option Addr) (d : Nat), Qs W R rs → Calls Tryz.prog 11 #[.agg #[.slice R z d]] W (StrR W t)) := fun hg => by
    obtain ⟨hgr, hpw⟩ := good_pow hw (hgd.trans hg)
    have hl : PowB l := (hpw (l, [], digs W32 1) (by rw [hqs]; simp)).1
    have hf1 : FitN (l, [], digs W32 1) := ⟨by show l.length ≤ 12; omega, Nat.zero_le _, hl.pows, fun a ha => by cases ha⟩
    have hf2 : FitN (m, [], digs W32 1) := ⟨by show m.length ≤ 12; rw [hperm.length_eq]; omega, Nat.zero_le _, fun a ha => hl.pows a (hperm.mem_iff.1 ha), fun a ha => by cases ha⟩
    obtain ⟨res, hres⟩ : ∃ r, normQs qs = r := ⟨_, rfl⟩
    have hres2 : normQs ps = res := by rw [← hres, hps, hqs]; exact one_normQs hperm
    refine ⟨(res.getD []).length, if res.isNone then 11 else 0, res.getD [], unitS ((res.getD []).map toP), ?_, ?_, fun W R d hR => ?_⟩
    · rw [hqs]; exact nUn_of hf1 (by rw [← hqs]; exact hres)
    · rw [hps]; exact nUn_of hf2 (by rw [← hps]; exact hres2)
    · have : (res.getD []).length ≤ 4 ∧ (res.getD []).any greatQ = false ∧ ∀ r ∈ res.getD [], Good32 r.2.2 := by
        cases res with
        | none => exact ⟨Nat.zero_le _, rfl, fun r hr => by cases hr⟩
        | some r =>
          obtain ⟨e1, e2, e3⟩ := normQs_great hres hgr hw
          exact ⟨by show r.length ≤ 4; rw [e1, hqs]; exact Nat.succ_le_succ (Nat.zero_le _), e2, e3⟩
      exact great_show hR rfl this.1 this.2.1 this.2.2
  clear hqs hps hgd hw hf h hperm hm hn1
  have HAI := khide hai; have HAK := khide hak; have HN := khide hn; have HC := khide hc
  have hi' : (i : Int) < (n : Int) := by omega
  have hk' : (k : Int) < (n : Int) := by omega
  clear hai hak hn hc
  go_enter Tryz.func6, Tryz.ntmps6
  go_upto_region 6 with (first | (go_at_call 7; (with_reducible refine (CA.out _).mono ?_); rintro e w1 ⟨rfl, hb⟩; replace HB := HB.up hb.hid; replace HS := HS.up hb.hid) | (go_at_call 22; (with_reducible refine (CO.out _).mono ?_); rintro e w2 ⟨B, d, rfl, HNM, hb⟩; replace HB := HB.up hb; replace HS := HS.up hb) | fail)
  refine kwp_named ?_
  intro W4 hW4
  have HU : At W4 (w2.heap.size + 1) [.slice (some ⟨w2.heap.size, 0, none⟩) 1 1] := by rw [hW4]; exact at_new1 _ _ _ _
  have HQ : Qs W4 (some ⟨w2.heap.size, 0, none⟩) qs := by
    refine CQ.out W4 _ B d ?_ ?_ ?_
    · rw [hW4]; exact (HS.al _).al _
    · rw [hW4]; exact (HNM.al _).al _
    · rw [hW4]; exact (at_new0 _ _ _).al _
  replace HS : Cs W4 A (cellsA l) := by rw [hW4]; exact (HS.al _).al _
  replace HB : Bel w W4 := by rw [hW4]; exact (HB.al _).al _
  obtain ⟨b1, hb1⟩ : ∃ p, p = w2.heap.size := ⟨_, rfl⟩
  obtain ⟨p1, hp1⟩ : ∃ p, p = w2.heap.size + 1 := ⟨_, rfl⟩
  rw [← hp1, ← hb1] at HU
  rw [← hb1] at HQ
  rw [← hp1]
  clear hW4 hp1 hb1 HNM hb
  have hu_0 := HU.c0; have hu_l := HU.lt
  have HLP := hu_l
  cases gd with
  | false =>
    refine wp_region_held_drew (S := fun w' => w'.cell? ⟨p1, 0, none⟩ = some (.slice (some ⟨b1, 0, none⟩) 1 1)) (by kernel_rfl) ?_ (fun hHeld => ?_)
    · exact HU.c0
    (refine wpAnyH_take (i := 1) (v := ?_) rfl (by decide +kernel) (by decide +kernel) (by decide +kernel) (fun _ _ _ h => h) (Or.inl ⟨by rfl, ?_⟩) (by assumption) ?_; rotate_left; (focus ((intro w hSw; (try dsimp only at hSw); go_simp); (try (with_reducible rfl)); done)); (try simp only [List.getElem_toArray, List.getElem_cons_zero, List.getElem_cons_succ, Act.put, List.setIfInBounds_toArray, List.set_cons_zero, List.set_cons_succ]))
    (refine wpAnyH_ready (rs := [0]) (by decide +kernel) (by simp) ?_; refine AllReadyH.cons rfl (fun K hK => ?_) AllReadyH.nil; go_simp; (go_at_call 9; (with_reducible refine (CM.out _).mono ?_); rintro e wx ⟨A1, B1, rfl, HN', HP', hb⟩; replace HU := HU.dr.up (Bel.hid hb); replace HQ := HQ.dr.up (Bel.hid hb); replace HS := HS.dr.up (Bel.hid hb); replace HB := HB.dr.up (Bel.hid hb)); (try (go_wp2_with fail)); refine hK.out _ _ ?_ (fun hHeld => ?_); (focus ((try dsimp only); (with_reducible exact HU.c0))); clear hK K; (try simp only [List.getElem_toArray, List.getElem_cons_zero, List.getElem_cons_succ, Act.put, List.setIfInBounds_toArray, List.set_cons_zero, List.set_cons_succ]))
    (refine wpAnyH_ready (rs := [2]) (by decide +kernel) (by simp) ?_; refine AllReadyH.cons rfl (fun K hK => ?_) AllReadyH.nil; go_simp; (go_at_call 13; (with_reducible refine (CG.out _ _ _ _ _ HN' HP' HQ).mono ?_); rintro e wx ⟨rfl, hb⟩; replace HU := HU.up (Bel.hid hb); replace HQ := HQ.up (Bel.hid hb); replace HS := HS.up (Bel.hid hb); replace HB := HB.up (Bel.hid hb); clear HN' HP'); (try (go_wp2_with fail)); refine hK.out _ _ ?_ (fun hHeld => ?_); (focus ((try dsimp only); (with_reducible exact HU.c0))); clear hK K; (try simp only [List.getElem_toArray, List.getElem_cons_zero, List.getElem_cons_succ, Act.put, List.setIfInBounds_toArray, List.set_cons_zero, List.set_cons_succ]))
    (refine wpAnyH_take (i := 3) (v := ?_) rfl (by decide +kernel) (by decide +kernel) (by decide +kernel) (fun _ _ _ h => h) (Or.inl ⟨by rfl, ?_⟩) (by assumption) ?_; rotate_left; (focus ((intro w hSw; (try dsimp only at hSw); go_simp); (try (with_reducible rfl)); done)); (try simp only [List.getElem_toArray, List.getElem_cons_zero, List.getElem_cons_succ, Act.put, List.setIfInBounds_toArray, List.set_cons_zero, List.set_cons_succ]))
    refine wpAnyH_done (by decide +kernel) ?_ _
    go_wp2_with fail
    go_ret
    exact ⟨rfl, HB⟩
  | true =>
    obtain ⟨z, er, rs, t, cn1, cn2, cs⟩ := HGF.out rfl
    have CN1 := khide cn1; have CN2 := khide cn2; have CS := khide cs
    clear cn1 cn2 cs
    refine wp_region_held_drew (S := fun w' => w'.cell? ⟨p1, 0, none⟩ = some (.slice (some ⟨b1, 0, none⟩) 1 1)) (by kernel_rfl) ?_ (fun hHeld => ?_)
    · exact HU.c0
    (refine wpAnyH_take (i := 1) (v := ?_) rfl (by decide +kernel) (by decide +kernel) (by decide +kernel) (fun _ _ _ h => h) (Or.inl ⟨by rfl, ?_⟩) (by assumption) ?_; rotate_left; (focus ((intro w hSw; (try dsimp only at hSw); go_simp); (try (with_reducible rfl)); done)); (try simp only [List.getElem_toArray, List.getElem_cons_zero, List.getElem_cons_succ, Act.put, List.setIfInBounds_toArray, List.set_cons_zero, List.set_cons_succ]))
    (refine wpAnyH_ready (rs := [0]) (by decide +kernel) (by simp) ?_; refine AllReadyH.cons rfl (fun K hK => ?_) AllReadyH.nil; go_simp; (go_at_call 9; (with_reducible refine (CM.out _).mono ?_); rintro e wx ⟨A1, B1, rfl, HN', HP', hb⟩; replace HU := HU.dr.up (Bel.hid hb); replace HQ := HQ.dr.up (Bel.hid hb); replace HS := HS.dr.up (Bel.hid hb); replace HB := HB.dr.up (Bel.hid hb)); (try (go_wp2_with fail)); refine hK.out _ _ ?_ (fun hHeld => ?_); (focus ((try dsimp only); (with_reducible exact HU.c0))); clear hK K; (try simp only [List.getElem_toArray, List.getElem_cons_zero, List.getElem_cons_succ, Act.put, List.setIfInBounds_toArray, List.set_cons_zero, List.set_cons_succ]))
    (refine wpAnyH_ready (rs := [2]) (by decide +kernel) (by simp) ?_; refine AllReadyH.cons rfl (fun K hK => ?_) AllReadyH.nil; go_simp; (go_at_call 13; (with_reducible refine (CG.out _ _ _ _ _ HN' HP' HQ).mono ?_); rintro e wx ⟨rfl, hb⟩; replace HU := HU.up (Bel.hid hb); replace HQ := HQ.up (Bel.hid hb); replace HS := HS.up (Bel.hid hb); replace HB := HB.up (Bel.hid hb); clear HN' HP'); (try (go_wp2_with fail)); refine hK.out _ _ ?_ (fun hHeld => ?_); (focus ((try dsimp only); (with_reducible exact HU.c0))); clear hK K; (try simp only [List.getElem_toArray, List.getElem_cons_zero, List.getElem_cons_succ, Act.put, List.setIfInBounds_toArray, List.set_cons_zero, List.set_cons_succ]))
    (refine wpAnyH_take (i := 3) (v := ?_) rfl (by decide +kernel) (by decide +kernel) (by decide +kernel) (fun _ _ _ h => h) (Or.inl ⟨by rfl, ?_⟩) (by assumption) ?_; rotate_left; (focus ((intro w hSw; (try dsimp only at hSw); go_simp); (try (with_reducible rfl)); done)); (try simp only [List.getElem_toArray, List.getElem_cons_zero, List.getElem_cons_succ, Act.put, List.setIfInBounds_toArray, List.set_cons_zero, List.set_cons_succ]))
    refine wpAnyH_done (by decide +kernel) ?_ _
    obtain ⟨i0, hi0, hz0, hz1, hz2⟩ := info_parts infoAtomP
    have J0 := khide hi0; have Y0 := khide hz0; have Y1 := khide hz1; have Y2 := khide hz2
    clear hi0 hz0 hz1 hz2
    obtain ⟨ad, rfl, had, _⟩ := cs_at3 HS HAI.out
    have HCC : Hid (∀ (W : World) (j : Nat) (u : Value), Bel wx W → (cellsA l)[j]? = some u → W.cell? (ad.add j) = some u) := fun W j u hb9 hj => by
      have h9 := HS.up hb9.hid
      obtain ⟨ad', e, _, h8⟩ := h9.out (by have := (List.getElem?_eq_some_iff.1 hj).1; omega)
      cases e
      exact h8 j u hj
    go_upto_region 9 with (first | (at_builtin; go_must (refine wpList_append_own _ rfl _ _ 36 rfl wx.heap.size 59 i0 (.agg #[.string ByteArray.empty, .string ByteArray.empty, .int .i64 0]) 3 40 Tryz.underlying36 J0.out Y0.out Y1.out Y2.out rfl (by decide) _ _ _ rfl (World.ownsRow_made _ #[] 0 (Nat.le_refl _) (Nat.zero_le _) rfl) ad n c (cellsA l) rfl (by rw [cellsA_len, ← HN.out]) (fun j u hj => HCC.out _ j u ((Bel.refl _).al _) hj) (cellsA_one l) (by simp only [maxLen]; omega) (by omega) (by simp) ?_); intro v1 w6 ho1 hg1 hn1; clear hn1) | fail)
    have ho2 : w6.ownsRow wx.heap.size 59 3 v1 n (cellsA l) := by simpa using ho1
    have hg2 : (wx.alloc (.cells #[] 59)).grownBy w6 (Value.slice (some ⟨wx.heap.size, 0, none⟩) 0 0).ownBlock := hg1
    have hb6 : Hid (Below wx.heap.size wx w6) := ((Below.refl _ wx).alloc (Nat.le_refl _) _).grown hg2 (by simp) (by intro k hk; simp [Value.ownBlock] at hk; omega)
    clear hg1 hg2 ho1
    obtain ⟨g2, c2, rfl, hgb⟩ : ∃ g2 c2, v1 = .slice (some ⟨g2, 0, none⟩) n c2 ∧ wx.heap.size ≤ g2 := by
      rcases ho2.2 with ⟨_, h9⟩ | ⟨g, cap, cur, e, hb', _⟩
      · omega
      · exact ⟨g, cap, e, hb'⟩
    obtain ⟨pi, ni, ei⟩ := ai
    obtain ⟨pk, nk, ek⟩ := ak
    have HA6 := (at_of_own ho2).1
    obtain ⟨x0, x1, x2⟩ := cellsA_get HAI.out
    obtain ⟨z0, z1, z2⟩ := cellsA_get HAK.out
    have hug : p1 ≠ g2 := by have := HU.lt; omega
    have HWX := khide hgb
    have HBX : Hid (wx.heap.size ≤ w6.heap.size) := hb6.out.size
    have HG : Hid (w.heap.size ≤ g2) := Nat.le_trans (Below.size HB) hgb
    have HO := khide ho2
    have i0' : (0 : Int) ≤ (i : Int) := by omega
    have k0' : (0 : Int) ≤ (k : Int) := by omega
    have yi0 := HA6.ci x0; have yi1 := HA6.ci x1; have yi2 := HA6.ci x2
    have yk0 := HA6.ci z0; have yk1 := HA6.ci z1; have yk2 := HA6.ci z2
    have fi0 := HA6.fi x0; have fi1 := HA6.fi x1; have fi2 := HA6.fi x2
    have fk0 := HA6.fi z0; have fk1 := HA6.fi z1; have fk2 := HA6.fi z2
    have gl := HA6.lt
    obtain ⟨⟨pb, nb, eb⟩, hbk⟩ : ∃ b, (l.set i (pk, nk, ek))[k]? = some b := ⟨(l.set i (pk, nk, ek))[k]'(by rw [List.length_set, ← HN.out]; exact hk), List.getElem?_eq_getElem _⟩
    have hoX := own_atom ho2 (j := i) (by rw [← HN.out]; exact hi) (pk, nk, ek)
    have HAX := (at_of_own hoX).1
    obtain ⟨u0, u1, u2⟩ := cellsA_get hbk
    have xk0 := HAX.ci u0; have xk1 := HAX.ci u1; have xk2 := HAX.ci u2
    have gk0 := HAX.fi u0; have gk1 := HAX.fi u1; have gk2 := HAX.fi u2
    dsimp only at xk0 xk1 xk2 gk0 gk1 gk2
    clear hoX HAX u0 u1 u2 hbk
    clear ho2 HA6 x0 x1 x2 z0 z1 z2 hgb
    go_region_with fail
    all_goals (
      obtain ⟨W7, hW7⟩ : ∃ X, X = ((((((w6.setCell ⟨g2, i * 3, none⟩ (.string pk)).setCell ⟨g2, i * 3 + 1, none⟩ (.string nk)).setCell ⟨g2, i * 3 + 2, none⟩ (.int .i64 ek)).setCell ⟨g2, k * 3, none⟩ (.string pi)).setCell ⟨g2, k * 3 + 1, none⟩ (.string ni)).setCell ⟨g2, k * 3 + 2, none⟩ (.int .i64 ei)).drew := ⟨_, rfl⟩
      rw [← hW7]
      have hb7 : Hid (Below wx.heap.size wx W7) := by
        rw [hW7]
        have hg := HWX.out
        exact ((((((hb6.out.setCell hg _).setCell hg _).setCell hg _).setCell hg _).setCell hg _).setCell hg _).drew
      have hc2 : n ≤ c2 := own_cap HO.out
      have HM7 : Cs W7 (some ⟨g2, 0, none⟩) (cellsA m) := by
        have e1 := own_atom HO.out (j := i) (by rw [← HN.out]; exact hi) (pk, nk, ek)
        have e2 := own_atom e1 (j := k) (by rw [List.length_set, ← HN.out]; exact hk) (pi, ni, ei)
        rw [← HM.out] at e2
        rw [hW7]
        exact (Cs.of_own e2).dr
      replace HU := HU.up hb7; replace HQ := HQ.up hb7; replace HB := HB.up hb7
      have hu_0 := HU.c0; have hu_l := HU.lt
      clear hW7 hb7 hb6 HO yi0 yi1 yi2 yk0 yk1 yk2 fi0 fi1 fi2 fk0 fk1 fk2 xk0 xk1 xk2 gk0 gk1 gk2 gl HWX HG HBX hug
      go_upto_region 11 with (first | (go_at_call 10; (with_reducible refine (CN1.out _ _ _ HQ).mono ?_); rintro e w8 ⟨R1, e1, rfl, HR1, hb8⟩; clear hu_0 hu_l; replace HB := HB.up (Bel.hid hb8); replace HM7 := HM7.up (Bel.hid hb8)) | fail)
      refine kwp_named ?_
      intro W8 hW8
      have HX1 : At W8 w8.heap.size [.slice R1 z e1] := by rw [hW8]; exact at_new0 _ _ _
      replace HR1 : Qs W8 R1 rs := by rw [hW8]; exact HR1.al _
      replace HB : Bel w W8 := by rw [hW8]; exact HB.al _
      replace HM7 : Cs W8 (some ⟨g2, 0, none⟩) (cellsA m) := by rw [hW8]; exact HM7.al _
      obtain ⟨q1, hq1⟩ : ∃ q, q = w8.heap.size := ⟨_, rfl⟩
      rw [← hq1] at HX1
      rw [← hq1]
      clear hW8 hq1 hb8 HU HQ
      go_upto_region 12 with (first | (go_at_call 22; (with_reducible refine (CO.out _).mono ?_); rintro e w9 ⟨B9, d9, rfl, HNM, hb⟩; replace HB := HB.up hb; replace HM7 := HM7.up hb; replace HX1 := HX1.up hb; replace HR1 := HR1.up hb) | (go_at_call 10; (with_reducible refine (CN2.out _ _ _ (CQ2.out _ _ _ _ _ _ (HM7.al _) hc2 (HNM.al _) (at_new0 _ _ _))).mono ?_); rintro e w10 ⟨R2, e2, rfl, HR2, hb10⟩; replace HB := (HB.al _).up (Bel.hid hb10); replace HX1 := (HX1.al _).up (Bel.hid hb10); replace HR1 := (HR1.al _).up (Bel.hid hb10)) | fail)
      refine kwp_named ?_
      intro W11 hW11
      have HX2 : At W11 w10.heap.size [.slice R2 z e2] := by rw [hW11]; exact at_new0 _ _ _
      replace HX1 : At W11 q1 [.slice R1 z e1] := by rw [hW11]; exact HX1.al _
      replace HR1 : Qs W11 R1 rs := by rw [hW11]; exact HR1.al _
      replace HR2 : Qs W11 R2 rs := by rw [hW11]; exact HR2.al _
      replace HB : Bel w W11 := by rw [hW11]; exact HB.al _
      obtain ⟨q2, hq2⟩ : ∃ q, q = w10.heap.size := ⟨_, rfl⟩
      rw [← hq2] at HX2
      rw [← hq2]
      clear hW11 hq2 hb10 HM7 HNM hb
      have se : (er == er) = true := by simp
      have st : (t.toList == t.toList) = true := by simp
      have hx_l := HX1.lt; have hy_l := HX2.lt
      refine wp_region_held_drew (S := fun w' => w'.cell? ⟨q1, 0, none⟩ = some (.slice R1 z e1) ∧ w'.cell? ⟨q2, 0, none⟩ = some (.slice R2 z e2)) (by kernel_rfl) ?_ (fun hHeld => ?_)
      · exact ⟨HX1.c0, HX2.c0⟩
      (refine wpAnyH_take (i := 0) (v := ?_) rfl (by decide +kernel) (by decide +kernel) (by decide +kernel) (fun _ _ _ h => h) (Or.inl ⟨by rfl, ?_⟩) (by assumption) ?_; rotate_left; (focus ((intro w hSw; (try dsimp only at hSw); go_simp); (try (with_reducible rfl)); done)); (try simp only [List.getElem_toArray, List.getElem_cons_zero, List.getElem_cons_succ, Act.put, List.setIfInBounds_toArray, List.set_cons_zero, List.set_cons_succ]))
      (refine wpAnyH_take (i := 1) (v := ?_) rfl (by decide +kernel) (by decide +kernel) (by decide +kernel) (fun _ _ _ h => h) (Or.inl ⟨by rfl, ?_⟩) (by assumption) ?_; rotate_left; (focus ((intro w hSw; (try dsimp only at hSw); go_simp); (try (with_reducible rfl)); done)); (try simp only [List.getElem_toArray, List.getElem_cons_zero, List.getElem_cons_succ, Act.put, List.setIfInBounds_toArray, List.set_cons_zero, List.set_cons_succ]))
      (refine wpAnyH_take (i := 2) (v := ?_) rfl (by decide +kernel) (by decide +kernel) (by decide +kernel) (fun _ _ _ h => h) (Or.inl ⟨by rfl, ?_⟩) (by assumption) ?_; rotate_left; (focus ((intro w hSw; (try dsimp only at hSw); go_simp); (try (with_reducible rfl)); done)); (try simp only [List.getElem_toArray, List.getElem_cons_zero, List.getElem_cons_succ, Act.put, List.setIfInBounds_toArray, List.set_cons_zero, List.set_cons_succ]))
      (refine wpAnyH_take (i := 3) (v := ?_) rfl (by decide +kernel) (by decide +kernel) (by decide +kernel) (fun _ _ _ h => h) (Or.inl ⟨by rfl, ?_⟩) (by assumption) ?_; rotate_left; (focus ((intro w hSw; (try dsimp only at hSw); go_simp); (try (with_reducible rfl)); done)); (try simp only [List.getElem_toArray, List.getElem_cons_zero, List.getElem_cons_succ, Act.put, List.setIfInBounds_toArray, List.set_cons_zero, List.set_cons_succ]))
      (refine wpAnyH_take (i := 4) (v := ?_) rfl (by decide +kernel) (by decide +kernel) (by decide +kernel) (fun _ _ _ h => h) (Or.inl ⟨by rfl, ?_⟩) (by assumption) ?_; rotate_left; (focus ((intro w hSw; (try dsimp only at hSw); go_simp); (try (with_reducible rfl)); done)); (try simp only [List.getElem_toArray, List.getElem_cons_zero, List.getElem_cons_succ, Act.put, List.setIfInBounds_toArray, List.set_cons_zero, List.set_cons_succ]))
      (refine wpAnyH_take (i := 6) (v := ?_) rfl (by decide +kernel) (by decide +kernel) (by decide +kernel) (fun _ _ _ h => h) (Or.inl ⟨by rfl, ?_⟩) (by assumption) ?_; rotate_left; (focus ((intro w hSw; (try dsimp only at hSw); go_simp); (try (with_reducible rfl)); done)); (try simp only [List.getElem_toArray, List.getElem_cons_zero, List.getElem_cons_succ, Act.put, List.setIfInBounds_toArray, List.set_cons_zero, List.set_cons_succ]))
      (refine wpAnyH_ready (rs := [5]) (by decide +kernel) (by simp) ?_; refine AllReadyH.cons rfl (fun K hK => ?_) AllReadyH.nil; go_simp; (go_at_call 11; (with_reducible refine (CS.out _ _ _ HR1.dr).mono ?_); rintro e wy ⟨rfl, hb⟩; replace HX1 := HX1.dr.up hb; replace HX2 := HX2.dr.up hb; replace HR1 := HR1.dr.up hb; replace HR2 := HR2.dr.up hb; replace HB := HB.dr.up hb); (try (go_wp2_with fail)); refine hK.out _ _ ?_ (fun hHeld => ?_); (focus ((try dsimp only); (with_reducible exact ⟨HX1.c0, HX2.c0⟩))); clear hK K; (try simp only [List.getElem_toArray, List.getElem_cons_zero, List.getElem_cons_succ, Act.put, List.setIfInBounds_toArray, List.set_cons_zero, List.set_cons_succ]))
      (refine wpAnyH_ready (rs := [7]) (by decide +kernel) (by simp) ?_; refine AllReadyH.cons rfl (fun K hK => ?_) AllReadyH.nil; go_simp; (go_at_call 11; (with_reducible refine (CS.out _ _ _ HR2).mono ?_); rintro e wy ⟨rfl, hb⟩; replace HX1 := HX1.up hb; replace HX2 := HX2.up hb; replace HR1 := HR1.up hb; replace HR2 := HR2.up hb; replace HB := HB.up hb); (try (go_wp2_with fail)); refine hK.out _ _ ?_ (fun hHeld => ?_); (focus ((try dsimp only); (with_reducible exact ⟨HX1.c0, HX2.c0⟩))); clear hK K; (try simp only [List.getElem_toArray, List.getElem_cons_zero, List.getElem_cons_succ, Act.put, List.setIfInBounds_toArray, List.set_cons_zero, List.set_cons_succ]))
      (refine wpAnyH_take (i := 8) (v := ?_) rfl (by decide +kernel) (by decide +kernel) (by decide +kernel) (fun _ _ _ h => h) (Or.inl ⟨by rfl, ?_⟩) (by assumption) ?_; rotate_left; (focus ((intro w hSw; (try dsimp only at hSw); go_simp); (try (with_reducible rfl)); done)); (try simp only [List.getElem_toArray, List.getElem_cons_zero, List.getElem_cons_succ, Act.put, List.setIfInBounds_toArray, List.set_cons_zero, List.set_cons_succ]))
      (refine wpAnyH_take (i := 9) (v := ?_) rfl (by decide +kernel) (by decide +kernel) (by decide +kernel) (fun _ _ _ h => h) (Or.inl ⟨by rfl, ?_⟩) (by assumption) ?_; rotate_left; (focus ((intro w hSw; (try dsimp only at hSw); go_simp); (try (with_reducible rfl)); done)); (try simp only [List.getElem_toArray, List.getElem_cons_zero, List.getElem_cons_succ, Act.put, List.setIfInBounds_toArray, List.set_cons_zero, List.set_cons_succ]))
      (refine wpAnyH_take (i := 10) (v := ?_) rfl (by decide +kernel) (by decide +kernel) (by decide +kernel) (fun _ _ _ h => h) (Or.inl ⟨by rfl, ?_⟩) (by assumption) ?_; rotate_left; (focus ((intro w hSw; (try dsimp only at hSw); go_simp); (try (with_reducible rfl)); done)); (try simp only [List.getElem_toArray, List.getElem_cons_zero, List.getElem_cons_succ, Act.put, List.setIfInBounds_toArray, List.set_cons_zero, List.set_cons_succ]))
      refine wpAnyH_done (by decide +kernel) ?_ _
      go_wp2_with fail
      go_ret
      exact ⟨rfl, HB⟩)
theorem uorder_any {i k : Int} (h : Cs w A (cellsA l)) (hn : n = l.length) (hc : n ≤ c) (hf : ∀ a ∈ l, a.1.size + a.2.1.size ≤ 1000000000000000) : Calls Tryz.prog 6 #[.slice A n c, .int .i64 i, .int .i64 k] w (RetB w true) := by
  by_cases h9 : (n : Int) < 1 ∨ 6 < (n : Int) ∨ i < 0 ∨ k < 0 ∨ (n : Int) ≤ i ∨ (n : Int) ≤ k
  · exact uorder_aside h9
  · obtain ⟨i', rfl⟩ : ∃ i' : Nat, i = (i' : Int) := ⟨i.toNat, by omega⟩
    obtain ⟨k', rfl⟩ : ∃ k' : Nat, k = (k' : Int) := ⟨k.toNat, by omega⟩
    exact uorder_main h hn hc (by omega) (by omega) (by omega) (by omega) hf
end
end Go.Proofs.YthdpojkeceoiiaaGreatDoor
end

section
/- UnitOrder of any input; the sizes of a slice of atoms that came in. No conditions. -/
namespace Go.Proofs.YthdpojkeceoiiaaGreatDoor
open Go.ChangeShapes Go.WideShapes Go.ChangeAt Go.RowKit
set_option maxRecDepth 100000
theorem uorder_all {A : Option Addr} {c : Nat} {l : List AL} {i k : Int} {p q : Prop} (w : World) (h : Cs w A (cellsA l)) (hc : l.length ≤ c) (hf : ∀ a ∈ l, a.1.size + a.2.1.size ≤ 1000000000000000) (_ : p) (_ : q) :
    Calls Tryz.prog 6 #[.slice A l.length c, .int .i64 i, .int .i64 k] w (fun e w' => e = .returned (.bool true) ∧ Below w.heap.size w w') := uorder_any h rfl hc hf
theorem weights_elemA {H : Type} {l : List (DataW H)} {a : AL} (h : datA a ∈ l) : a.1.data.toList.length ∈ DataW.weightsAll Tryz.prog 59 l ∧ a.2.1.data.toList.length ∈ DataW.weightsAll Tryz.prog 59 l := by
  induction l with
  | nil => cases h
  | cons d r ih =>
    simp only [DataW.weightsAll, List.mem_append]
    rcases List.mem_cons.1 h with h | h
    · subst h
      exact ⟨.inl (by simp [datA, DataW.weights, DataW.weightsEach, Tryz.underlying59]), .inl (by simp [datA, DataW.weights, DataW.weightsEach, Tryz.underlying59])⟩
    · exact ⟨.inr (ih h).1, .inr (ih h).2⟩
/-- The atoms of a slice that came in are no longer than any machine can reach. -/
theorem atoms_sizes {H : Type} {ts : List TypeId} {ds : List (DataW H)} (h : (DataW.weightsEach Tryz.prog ts ds).all (· ≤ reachBytes) = true) {j : Nat} {d : DataW H} {xs : List AL} (ht : ts[j]? = some 36) (hd : ds[j]? = some d)
    (hx : xs = [] ∨ ∃ spare, d = .slice (xs.map datA) spare) : ∀ a ∈ xs, a.1.size + a.2.1.size ≤ 1000000000000000 := by
  intro a hm
  rcases hx with rfl | ⟨spare, rfl⟩
  · cases hm
  · obtain ⟨g1, g2⟩ := weights_elemA (List.mem_map.2 ⟨a, hm, rfl⟩ : datA (H := H) a ∈ xs.map datA)
    have key : ∀ n, n ∈ DataW.weightsAll Tryz.prog 59 (xs.map (datA (H := H))) → n ≤ 140737488355328 := fun n hn => by
      have h1 := DataW.weights_mem_each (P := Tryz.prog) ht hd n (by
        simp only [DataW.weights, Tryz.underlying36]
        exact List.mem_cons_of_mem _ (List.mem_append_left _ hn))
      have h2 := List.all_eq_true.1 h _ h1
      have h3 : n ≤ reachBytes := by simpa using h2
      have h4 := reachBytes_lt
      omega
    have h1 := key _ g1
    have h2 := key _ g2
    rw [Lib.size_eq, Lib.size_eq]
    omega
end Go.Proofs.YthdpojkeceoiiaaGreatDoor
end
