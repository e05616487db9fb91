/- Several texts in one, each with its own sentence and conditions. -/
import Derived.Test.YthdpojkeceoiiaaGreatDoorGJvc28
import Derived.Test.YthdpojkeceoiiaaGreatDoorGJvc3
import Derived.Deep.CutRange
section
/- Plain mathematics: a unit that was read is shown as it was. No conditions. -/
open Go.RowKit
set_option maxRecDepth 100000
namespace Go.Proofs.YthdpojkeceoiiaaGreatDoor
/-- The words, a hyphen ahead of each. -/
def tl (xs : List ByteArray) : List UInt8 := xs.flatMap fun x => 45 :: x.data.toList
theorem tl_app (xs ys : List ByteArray) : tl (xs ++ ys) = tl xs ++ tl ys := List.flatMap_append
theorem tl_cons (x : ByteArray) (xs : List ByteArray) : tl (x :: xs) = 45 :: (x.data.toList ++ tl xs) := rfl
theorem tl_one (x : ByteArray) : tl [x] = 45 :: x.data.toList := by simp [tl]
theorem tl_glue : ∀ {xs : List ByteArray}, xs ≠ [] → tl xs = 45 :: glue 45 (xs.map (·.data.toList))
  | [], h => absurd rfl h
  | [x], _ => tl_one x
  | x :: y :: xs, _ => by
    rw [tl_cons, tl_glue (xs := y :: xs) (by simp)]
    rfl
theorem tl_two (s u : ByteArray) : tl [s ++ ⟨#[45]⟩ ++ u] = tl [s, u] := by
  rw [tl_one, tl_cons, tl_one, app_data, app_data]
  simp
/-- What an atom was read from. -/
theorem parse_words {names ps l : List ByteArray} (h : (parseA names ps l).ok = true) :
    (∃ u r, l = u :: r ∧ (parseA names ps l).t = 1 ∧ showB (parseA names ps l).p (parseA names ps l).n ((parseA names ps l).k : Int) = u ∧ (parseA names ps l).p.size + (parseA names ps l).n.size = u.size) ∨
    (∃ s u r, l = s :: u :: r ∧ (parseA names ps l).t = 2 ∧ showB (parseA names ps l).p (parseA names ps l).n ((parseA names ps l).k : Int) = s ++ ⟨#[45]⟩ ++ u ∧ (parseA names ps l).p.size + (parseA names ps l).n.size = u.size) := by
  cases hu : l[(leadP l).2]? with
  | none => unfold parseA at h; rw [hu] at h; cases h
  | some u =>
    have e : parseA names ps l = parseU names ps (leadP l).1 (leadP l).2 u := by unfold parseA; rw [hu]
    rw [e] at h ⊢
    have hs : (sizeP names ps u).2 = true := by
      unfold parseU at h
      split at h
      · assumption
      · cases h
    have e2 : parseU names ps (leadP l).1 (leadP l).2 u = ⟨u.extract 0 (sizeP names ps u).1, restB u (sizeP names ps u).1, (leadP l).1, (leadP l).2 + 1, true⟩ := by unfold parseU; rw [if_pos hs]
    rw [e2]
    have hle := sizeP_le names ps u
    have hj := cut_join u _ hle
    have hz : (u.extract 0 (sizeP names ps u).1).size + (restB u (sizeP names ps u).1).size = u.size := by rw [← ByteArray.size_append, hj]
    rcases leadP_form l with hl | ⟨s, r, hl1, hl2, h1, h2, h3⟩
    · rw [hl] at hu ⊢
      left
      cases l with
      | nil => simp at hu
      | cons u' r =>
        simp at hu
        subst hu
        refine ⟨u', r, rfl, rfl, ?_, hz⟩
        show showB (u'.extract 0 _) (restB u' _) 1 = u'
        unfold showB
        rw [if_neg (by omega), if_pos rfl, hj]
    · rw [hl2] at hu ⊢
      right
      subst hl1
      cases r with
      | nil => simp at hu
      | cons u' r =>
        simp at hu
        subst hu
        refine ⟨s, u', r, rfl, rfl, ?_, hz⟩
        show showB (u'.extract 0 _) (restB u' _) ((powOf s : Nat) : Int) = _
        unfold showB
        rw [if_neg (by omega), if_neg (by omega), hj, Int.toNat_natCast, ← h3, join_two]
theorem atoms_T {names ps : List ByteArray} : ∀ (k : Nat) {l : List ByteArray} {r : List AL} {m : Nat}, l.length ≤ k → atomsL names ps l = some r → (∀ x ∈ l, x.size ≤ m) → tl (showsA r) = tl l ∧ SmallL r m
  | _, [], r, m, _, h, _ => by injection h with h; subst h; exact ⟨rfl, fun a ha => by cases ha⟩
  | 0, u :: l, r, m, hk, h, _ => by simp at hk
  | k + 1, u0 :: l, r, m, hk, h, hm => by
    by_cases e : (parseA names ps (u0 :: l)).ok = true
    · rw [atomsL_more e] at h
      have hw := parse_words e
      obtain ⟨pa, hpa⟩ : ∃ x, parseA names ps (u0 :: l) = x := ⟨_, rfl⟩
      rw [hpa] at h hw
      cases hh : atomsL names ps ((u0 :: l).drop pa.t) with
      | none => rw [hh] at h; cases h
      | some r' =>
        rw [hh] at h
        injection h with h
        have hx : ∀ {xs ys : List ByteArray}, xs.length = pa.t → u0 :: l = xs ++ ys → 0 < pa.t → tl [showB pa.p pa.n (pa.k : Int)] = tl xs → pa.p.size + pa.n.size ≤ m → tl (showsA r) = tl (u0 :: l) ∧ SmallL r m := fun {xs ys} hl hxy h0 ht hs => by
          have hd : (u0 :: l).drop pa.t = ys := by rw [hxy, ← hl, List.drop_left]
          rw [hd] at hh
          have hy : ys.length ≤ k := by
            have := congrArg List.length hxy
            rw [List.length_append, List.length_cons] at this
            simp at hk; omega
          obtain ⟨i1, i2⟩ := atoms_T k hy hh (fun x hx => hm x (by rw [hxy]; exact List.mem_append_right _ hx))
          rw [← h, hxy, tl_app]
          refine ⟨?_, fun a ha => ?_⟩
          · show tl (showB pa.p pa.n (pa.k : Int) :: showsA r') = _
            rw [← i1, ← ht, ← tl_app]; rfl
          · rcases List.mem_cons.1 ha with rfl | ha
            · exact hs
            · exact i2 a ha
        rcases hw with ⟨u, r0, e1, e2, e3, e4⟩ | ⟨s, u, r0, e1, e2, e3, e4⟩
        · refine hx (xs := [u]) (ys := r0) (by rw [e2]; rfl) (by rw [e1]; rfl) (by omega) (by rw [e3]) ?_
          rw [e4]; exact hm u (by rw [e1]; simp)
        · refine hx (xs := [s, u]) (ys := r0) (by rw [e2]; rfl) (by rw [e1]; rfl) (by omega) (by rw [e3, tl_two]) ?_
          rw [e4]; exact hm u (by rw [e1]; simp)
    · rw [atomsL_bad (by simp) (by simpa using e)] at h; cases h
theorem glue_sole {l a : List ByteArray} (h : cutBy perB l = [a]) : l = a := by
  have := glue_cutBy (a := perB) l
  rw [h] at this
  exact this.symm
theorem glue_pair {l a d : List ByteArray} (h : cutBy perB l = [a, d]) : l = a ++ perB :: d := by
  have := glue_cutBy (a := perB) l
  rw [h] at this
  exact this.symm
theorem headD_T (d : List ByteArray) (h : d ≠ []) : ((headD d).1 = oneB ∧ (headD d).2 = d) ∨ ((headD d).1 ≠ oneB ∧ d = (headD d).1 :: (headD d).2) := by
  cases d with
  | nil => exact absurd rfl h
  | cons x d =>
    by_cases e : numW x.data.toList = true ∧ x ≠ oneB
    · right
      have e2 : headD (x :: d) = (x, d) := if_pos e
      rw [e2]; exact ⟨e.2, rfl⟩
    · left
      have e2 : headD (x :: d) = (oneB, x :: d) := if_neg e
      rw [e2]; exact ⟨rfl, rfl⟩
/-- A part is shown as it was read. -/
theorem part_T {names ps l : List ByteArray} {p : PL} {m : Nat} (h : partD names ps l = some p) (hm : ∀ x ∈ l, x.size ≤ m) : tl (partW p) = tl l ∧ SmallL p.1 m ∧ SmallL p.2.1 m ∧ l ≠ [] ∧ partW p ≠ [] := by
  unfold partD at h
  have key : tl (partW p) = tl l → l ≠ [] → partW p ≠ [] := fun h1 h2 h3 => by
    rw [h3] at h1
    cases l with
    | nil => exact h2 rfl
    | cons x l => rw [tl_cons] at h1; cases h1
  match hc : cutBy perB l with
  | [] => rw [hc] at h; cases h
  | _ :: _ :: _ :: _ => rw [hc] at h; cases h
  | [a] =>
    rw [hc, partC_sole] at h
    cases hr : atomsL names ps a with
    | none => rw [hr] at h; cases h
    | some r =>
      rw [hr] at h
      simp only [Option.bind_some] at h
      by_cases h1 : 0 < r.length ∧ r.length ≤ 8
      · rw [if_pos h1] at h
        injection h with h
        subst h
        obtain rfl := glue_sole hc
        obtain ⟨i1, i2⟩ := atoms_T _ (Nat.le_refl _) hr hm
        have e : partW (r, [], oneB) = showsA r := if_pos ⟨rfl, rfl⟩
        have hl : l ≠ [] := fun e0 => by
          subst e0
          injection hr with hr
          subst hr
          exact absurd h1.1 (by decide)
        have h5 : tl (partW (r, [], oneB)) = tl l := by rw [e]; exact i1
        exact ⟨h5, i2, (fun a ha => by cases ha), hl, key h5 hl⟩
      · rw [if_neg h1] at h; cases h
  | [a, d] =>
    rw [hc, partC_two] at h
    by_cases h0 : d = []
    · rw [if_pos h0] at h; cases h
    · rw [if_neg h0] at h
      cases hr : atomsL names ps a with
      | none => rw [hr] at h; cases h
      | some r =>
        cases hs : atomsL names ps (headD d).2 with
        | none => rw [hr, hs] at h; cases h
        | some s =>
          rw [hr, hs] at h
          simp only [Option.bind_some] at h
          by_cases h1 : r.length + s.length ≤ 8
          · rw [if_pos h1] at h
            injection h with h
            subst h
            have hg := glue_pair hc
            have hl : l ≠ [] := by rw [hg]; simp
            have hma : ∀ x ∈ a, x.size ≤ m := fun x hx => hm x (by rw [hg]; exact List.mem_append_left _ hx)
            have hmd : ∀ x ∈ (headD d).2, x.size ≤ m := fun x hx => hm x (by
              rw [hg]
              refine List.mem_append_right _ (List.mem_cons_of_mem _ ?_)
              rcases headD_T d h0 with ⟨_, e⟩ | ⟨_, e⟩
              · rw [e] at hx; exact hx
              · rw [e]; exact List.mem_cons_of_mem _ hx)
            obtain ⟨i1, i2⟩ := atoms_T _ (Nat.le_refl _) hr hma
            obtain ⟨j1, j2⟩ := atoms_T _ (Nat.le_refl _) hs hmd
            have h5 : tl (partW (r, s, (headD d).1)) = tl l := by
              rcases headD_T d h0 with ⟨e1, e2⟩ | ⟨e1, e2⟩
              · rw [e2] at hs j1
                have hs0 : s ≠ [] := fun e0 => by
                  have := atomsL_pos hs h0
                  rw [e0] at this
                  exact absurd this (by decide)
                have e3 : partW (r, s, (headD d).1) = showsA r ++ [perB] ++ showsA s := by
                  rw [e1]
                  exact (if_neg (fun k => hs0 k.1)).trans (if_pos rfl)
                rw [e3, tl_app, tl_app, i1, j1, hg, tl_app]
                rw [show perB :: d = [perB] ++ d from rfl, tl_app, List.append_assoc]
              · have e3 : partW (r, s, (headD d).1) = showsA r ++ [perB] ++ [(headD d).1] ++ showsA s :=
                  (if_neg (fun k => e1 k.2)).trans (if_neg e1)
                rw [e3, tl_app, tl_app, tl_app, i1, j1, hg, tl_app]
                rw [show perB :: d = [perB] ++ ([(headD d).1] ++ (headD d).2) from by rw [show [(headD d).1] ++ (headD d).2 = d from e2.symm]; rfl, tl_app, tl_app]
                simp only [List.append_assoc]
            exact ⟨h5, i2, j2, hl, key h5 hl⟩
          · rw [if_neg h1] at h; cases h
theorem partS_T {names ps l : List ByteArray} {p : PL} {m : Nat} (h : partD names ps l = some p) (hm : ∀ x ∈ l, x.size ≤ m) : 45 :: (partS p).data.toList = tl l := by
  obtain ⟨h1, _, _, _, h5⟩ := part_T h hm
  rw [← h1, tl_glue h5]; rfl
theorem parts_T {names ps : List ByteArray} {m : Nat} : ∀ {css : List (List ByteArray)} {r : List PL}, css ≠ [] → partsL names ps css = some r → (∀ l ∈ css, ∀ x ∈ l, x.size ≤ m) →
    45 :: Lib.join ((r.map partS).map (·.data.toList)) sepB.data.toList = tl (glue andB css)
  | [], _, h, _, _ => absurd rfl h
  | [l], r, _, h, hm => by
    unfold partsL at h
    cases hp : partD names ps l with
    | none => rw [hp] at h; cases h
    | some p =>
      rw [hp] at h
      injection h with h
      subst h
      show 45 :: Lib.join [(partS p).data.toList] _ = tl l
      rw [Lib.join_one]
      exact partS_T hp (hm l (by simp))
  | l :: l2 :: css, r, _, h, hm => by
    unfold partsL at h
    cases hp : partD names ps l with
    | none => rw [hp] at h; cases h
    | some p =>
      rw [hp] at h
      simp only [Option.bind_some] at h
      cases hr : partsL names ps (l2 :: css) with
      | none => rw [hr] at h; cases h
      | some r' =>
        rw [hr] at h
        injection h with h
        have ih := parts_T (by simp) hr (fun l' hl' => hm l' (List.mem_cons_of_mem _ hl'))
        have h1 := partS_T hp (hm l (by simp))
        have hlen := partsL_len hr
        cases r' with
        | nil => simp at hlen
        | cons p2 r2 =>
          rw [← h]
          show 45 :: Lib.join ((partS p).data.toList :: ((p2 :: r2).map partS).map (·.data.toList)) sepB.data.toList = tl (l ++ andB :: glue andB (l2 :: css))
          rw [show andB :: glue andB (l2 :: css) = [andB] ++ glue andB (l2 :: css) from rfl, tl_app, tl_app, ← ih, ← h1, tl_one]
          rw [Lib.join_cons]
          show 45 :: ((partS p).data.toList ++ Lib.joinTail _ ((partS p2).data.toList :: (r2.map partS).map (·.data.toList))) = _
          rw [show ((p2 :: r2).map partS).map (·.data.toList) = (partS p2).data.toList :: (r2.map partS).map (·.data.toList) from rfl, Lib.join_cons]
          unfold Lib.joinTail
          rw [List.map_cons, List.flatten_cons]
          show _ = 45 :: (partS p).data.toList ++ (45 :: andB.data.toList ++ (45 :: ((partS p2).data.toList ++ _)))
          rw [show sepB.data.toList = 45 :: andB.data.toList ++ [45] from by decide +kernel]
          simp
/-- A unit that is read is shown as it was. -/
theorem unit_back {names ps : List ByteArray} {s : ByteArray} {r : List PL} (h : unitD names ps s = .ok r) : unitS r = s := by
  obtain ⟨h1, h2, h3, h4⟩ := unitD_ok h
  have hm : ∀ l ∈ cutBy andB (pcs s), ∀ x ∈ l, x.size ≤ 20 := fun l hl x hx => goodAll_size h2 x (cutBy_mem _ l hl x hx)
  have hne : pcs s ≠ [] := fun e => by have := pcs_len s; rw [e] at this; simp at this
  have h5 := parts_T (cutBy_ne _) h3 hm
  rw [glue_cutBy, tl_glue hne, pcs_parts] at h5
  have h6 : glue 45 (parts s.data.toList) = s.data.toList := glue_cutBy _
  rw [h6, ← unitS_join] at h5
  injection h5 with _ h5
  exact ByteArray.ext (Array.ext' h5)
theorem map_back {r : List PL} (h : ∀ p ∈ r, okP p) : (r.map ofP).map toP = r := by
  rw [List.map_map]
  conv => rhs; rw [← List.map_id r]
  exact List.map_congr_left fun p hp => toP_ofP (h p hp)
theorem sameA_self (l : List AL) : sameA l l = true := decide_eq_true rfl
theorem sameQ_self (p : PL) : sameQ (ofP p) (ofP p) = true := by
  unfold sameQ
  rw [sameA_self, sameA_self, decide_eq_true rfl]
  show (goodB (digs W32 _) && _) = true
  rw [goodB_digs]; rfl
theorem sameQs_self : ∀ r : List PL, sameQs (r.map ofP) (r.map ofP) = true
  | [] => rfl
  | p :: r => by
    show (sameQ (ofP p) (ofP p) && sameQs (r.map ofP) (r.map ofP)) = true
    rw [sameQ_self, sameQs_self r]; rfl
theorem great_of {names ps l : List ByteArray} {p : PL} (h : partD names ps l = some p) (hm : ∀ x ∈ l, x.size ≤ 20) : greatQ (ofP p) = false := by
  obtain ⟨_, h2, h3, _, _⟩ := part_T h hm
  have h4 : okP p ∧ p.1.length + p.2.1.length ≤ 8 := partC_ok h
  have h5 : (digs W32 (nuOf p.2.2)).length ≤ 3 := numW_dl h4.1
  have a1 : ∀ {l : List AL}, SmallL l 20 → l.any longA = false := fun {l} hs => by
    rw [List.any_eq_false]
    intro a ha
    unfold longA
    have := hs a ha
    simp; omega
  unfold greatQ
  show (decide (3 < (digs W32 (nuOf p.2.2)).length) || (decide (8 < p.1.length + p.2.1.length) || (p.1.any longA || p.2.1.any longA))) = false
  rw [a1 h2, a1 h3, decide_eq_false (by omega), decide_eq_false (by omega)]; rfl
theorem greats_of {names ps : List ByteArray} : ∀ {css : List (List ByteArray)} {r : List PL}, partsL names ps css = some r → (∀ l ∈ css, ∀ x ∈ l, x.size ≤ 20) → (r.map ofP).any greatQ = false
  | [], r, h, _ => by injection h with h; subst h; rfl
  | l :: css, r, h, hm => by
    unfold partsL at h
    cases hp : partD names ps l with
    | none => rw [hp] at h; cases h
    | some p =>
      cases hr : partsL names ps css with
      | none => rw [hp, hr] at h; cases h
      | some r' =>
        rw [hp, hr] at h
        injection h with h
        rw [← h]
        show (greatQ (ofP p) || (r'.map ofP).any greatQ) = false
        rw [great_of hp (hm l (by simp)), greats_of hr (fun l' hl' => hm l' (List.mem_cons_of_mem _ hl'))]; rfl
/-- A unit that was read may be. -/
theorem goodU_back {names ps : List ByteArray} {s : ByteArray} {r : List PL} (h : unitD names ps s = .ok r) : goodU names ps (r.map ofP) = true := by
  obtain ⟨h1, h2, h3, h4⟩ := unitD_ok h
  have hm : ∀ l ∈ cutBy andB (pcs s), ∀ x ∈ l, x.size ≤ 20 := fun l hl x hx => goodAll_size h2 x (cutBy_mem _ l hl x hx)
  unfold goodU
  rw [List.length_map, decide_eq_true h4, greats_of h3 hm, map_back (fun p hp => (partsL_ok h3 p hp).1), unit_back h, h]
  exact sameQs_self r
end Go.Proofs.YthdpojkeceoiiaaGreatDoor
end

section
/- The law UnitBack. No conditions. -/
open Go.RowKit
set_option maxRecDepth 100000
namespace Go.Proofs.YthdpojkeceoiiaaGreatDoor
theorem seqB {s : ByteArray} : (s.toList == s.toList) = true := by simp
section
variable {s : ByteArray} {w : World}
set_option maxHeartbeats 2000000 in
theorem uback_long (h : 300 < s.size) : Calls Tryz.prog 5 #[.string s] w (RetB w true) := by
  have CA : Hid (∀ W : World, Calls Tryz.prog 7 #[] W (RetB W true)) := awake10_h
  have d1 : decide ((300 : Int) < (s.size : Int)) = true := decide_eq_true (by omega)
  have HB := Bel.refl w
  clear h
  go_enter Tryz.func5, Tryz.ntmps5
  go_wp2_with (first | (go_at_call 7; (with_reducible refine (CA.out _).mono ?_); rintro e w1 ⟨rfl, hb⟩; (replace HB := HB.up hb.hid)) | fail)
  go_ret
  exact ⟨rfl, HB⟩
set_option maxHeartbeats 2000000 in
theorem uback_err {v : Int} (h : ¬ 300 < s.size) (hD : unitD uN uP s = .error v) : Calls Tryz.prog 5 #[.string s] w (RetB w true) := by
  have CA : Hid (∀ W : World, Calls Tryz.prog 7 #[] W (RetB W true)) := awake10_h
  have CM : Hid (∀ W : World, Calls Tryz.prog 9 #[] W (SomeU W)) := some10_h
  have CP : Hid (∀ (W : World) (A B : Option Addr), Ss W A uN → Ss W B uP → Calls Tryz.prog 8 #[.agg #[.slice A 3 3, .slice B 2 2], .string s] W (fun e w' => e = .returned (.tuple #[.agg #[.slice none 0 0], .int .i64 v]) ∧ Bel W w')) := fun W A B h h' => by
    have h9 := uparse_any (s := s) (c := 3) (d := 2) h rfl (by decide) h' rfl (by decide)
    rw [hD] at h9
    exact h9
  have d1 : decide ((300 : Int) < (s.size : Int)) = false := decide_eq_false (by omega)
  have q0 : (v == 0) = false := by rcases unitD_err hD with rfl | rfl <;> rfl
  have q1 : (v != 0) = true := by rcases unitD_err hD with rfl | rfl <;> rfl
  have HB := Bel.refl w
  clear h hD
  go_enter Tryz.func5, Tryz.ntmps5
  go_wp2_with (first | (go_at_call 7; (with_reducible refine (CA.out _).mono ?_); rintro e w1 ⟨rfl, hb⟩; (replace HB := HB.up hb.hid)) | (go_at_call 9; (with_reducible refine (CM.out _).mono ?_); rintro e w2 ⟨A, B, rfl, HN, HP, hb⟩; (replace HB := HB.up hb.hid)) | (go_at_call 8; (with_reducible refine (CP.out _ _ _ HN HP).mono ?_); rintro e w3 ⟨rfl, hb⟩; (replace HB := HB.up hb.hid)) | fail)
  go_ret
  exact ⟨rfl, HB.al _⟩
set_option maxHeartbeats 8000000 in
theorem uback_ok {r : List PL} (h : ¬ 300 < s.size) (hD : unitD uN uP s = .ok r) : Calls Tryz.prog 5 #[.string s] w (RetB w true) := by
  have CA : Hid (∀ W : World, Calls Tryz.prog 7 #[] W (RetB W true)) := awake10_h
  have CM : Hid (∀ W : World, Calls Tryz.prog 9 #[] W (SomeU W)) := some10_h
  obtain ⟨k1, k2, k3, k4⟩ := unitD_ok hD
  have hok := partsL_ok k3
  have hback := unit_back hD
  have hmap := map_back (fun p hp => (hok p hp).1)
  have hgood := goodU_back hD
  have hgr : (r.map ofP).any greatQ = false := greats_of k3 (fun l hl x hx => goodAll_size k2 x (cutBy_mem _ l hl x hx))
  have hw : ∀ q ∈ r.map ofP, Good32 q.2.2 := fun q hq => by
    obtain ⟨p, _, rfl⟩ := List.mem_map.1 hq
    exact digs_good _
  have hlen : ∀ q ∈ r.map ofP, LenQ q := fun q hq => by
    obtain ⟨p, hp, rfl⟩ := List.mem_map.1 hq
    have := (hok p hp).2
    exact ⟨by show p.1.length ≤ _; omega, by show p.2.1.length ≤ _; omega⟩
  have hfit : ∀ q ∈ r.map ofP, FitA q.1 ∧ FitA q.2.1 := fun q hq => by
    have hl := hlen q hq
    have hg : greatQ q = false := by simpa using List.any_eq_false.1 hgr q hq
    unfold greatQ at hg
    simp only [Bool.or_eq_false_iff] at hg
    exact ⟨⟨hl.1, fun a ha => by
      have h9 := List.any_eq_false.1 hg.2.2.1 a ha
      unfold longA at h9
      simp only [decide_eq_true_eq] at h9
      omega⟩, ⟨hl.2, fun a ha => by
      have h9 := List.any_eq_false.1 hg.2.2.2 a ha
      unfold longA at h9
      simp only [decide_eq_true_eq] at h9
      omega⟩⟩
  obtain ⟨n, hn⟩ : ∃ n, r.length = n := ⟨_, rfl⟩
  have hml : n = (r.map ofP).length := by rw [List.length_map, hn]
  have CP : Hid (∀ (W : World) (A B : Option Addr), Ss W A uN → Ss W B uP → Calls Tryz.prog 8 #[.agg #[.slice A 3 3, .slice B 2 2], .string s] W (fun e w' => ∃ g c, e = .returned (.tuple #[.agg #[.slice (some ⟨g, 0, none⟩) n c], .int .i64 0]) ∧ Hid (W.heap.size ≤ g) ∧ Qs w' (some ⟨g, 0, none⟩) (r.map ofP) ∧ Bel W w')) := fun W A B h h' => by
    have h9 := uparse_any (s := s) (c := 3) (d := 2) h rfl (by decide) h' rfl (by decide)
    rw [hD] at h9
    refine h9.mono fun e w' h8 => ?_
    obtain ⟨g, c, e1, _, e3, e4, e5⟩ := h8
    exact ⟨g, c, hn ▸ e1, e3, e4, e5⟩
  have CS : Hid (∀ (W : World) (g c : Nat), Qs W (some ⟨g, 0, none⟩) (r.map ofP) → Calls Tryz.prog 11 #[.agg #[.slice (some ⟨g, 0, none⟩) n c]] W (StrR W s)) := fun W g c h => by
    have h9 := great_show (e := c) h hml (by omega) hgr hw
    rwa [hmap, hback] at h9
  have CO : Hid (∀ (W : World) (g c : Nat), Qs W (some ⟨g, 0, none⟩) (r.map ofP) → Calls Tryz.prog 19 #[.agg #[.slice (some ⟨g, 0, none⟩) n c]] W (fun e w' => ∃ R c', e = .returned (.slice R n c') ∧ Ps w' R r ∧ Bel W w')) := fun W g c h => by
    refine (partsOf_any (c := c) h hml (by omega) hlen).mono fun e w' h9 => ?_
    rw [hmap] at h9
    obtain ⟨R, c', z, e1, e2, e3, e4⟩ := h9
    exact ⟨R, c', by rw [e2, e1.out, hn], e3, e4⟩
  have CE : Hid (∀ (W : World) (R R' : Option Addr) (c c' : Nat), Ps W R r → Ps W R' r → Calls Tryz.prog 18 #[.slice R n c, .slice R' n c'] W (RetB W true)) := fun W R R' c c' h1 h2 => by
    have hl2 : LenP r := fun p hp => by have := (hok p hp).2; omega
    refine (sameParts_any h1 h2 hn.symm hn.symm (by omega) (by omega) hl2 hl2).mono fun e w' h9 => ?_
    exact ⟨by rw [h9.1]; exact congrArg _ (congrArg _ (decide_eq_true rfl)), bel_drewN (h9.2.choose_spec)⟩
  have CG : Hid (∀ (W : World) (A B : Option Addr) (g c : Nat), Ss W A uN → Ss W B uP → Qs W (some ⟨g, 0, none⟩) (r.map ofP) → Calls Tryz.prog 13 #[.agg #[.slice A 3 3, .slice B 2 2], .agg #[.slice (some ⟨g, 0, none⟩) n c]] W (RetB W true)) := fun W A B g c h1 h2 h3 => by
    have h9 := ugood_any (c := 3) (d := 2) (e := c) h1 rfl (by decide) h2 rfl (by decide) h3 hml hfit hw
    rwa [hgood] at h9
  have d1 : decide ((300 : Int) < (s.size : Int)) = false := decide_eq_false (by omega)
  have sq := seqB (s := s)
  have HB := Bel.refl w
  obtain ⟨qs, hqs⟩ : ∃ qs, r.map ofP = qs := ⟨_, rfl⟩
  rw [hqs] at CP CS CO CG
  clear h hD k1 k2 k3 k4 hok hback hmap hgood hgr hw hlen hfit hn hml hqs
  go_enter Tryz.func5, Tryz.ntmps5
  go_upto_region 6 with (first | (go_at_call 7; (with_reducible refine (CA.out _).mono ?_); rintro e w1 ⟨rfl, hb⟩; (replace HB := HB.up hb.hid)) | (go_at_call 9; (with_reducible refine (CM.out _).mono ?_); rintro e w2 ⟨A, B, rfl, HN, HP, hb⟩; (replace HB := HB.up hb.hid)) | (go_at_call 8; (with_reducible refine (CP.out _ _ _ HN HP).mono ?_); rintro e w3 ⟨g, c, rfl, -, HQ, hb⟩; (replace HB := HB.up hb.hid)) | fail)
  refine kwp_named ?_
  intro W4 hW4
  have HU : At W4 w3.heap.size [.slice (some ⟨g, 0, none⟩) n c] := by rw [hW4]; exact at_new0 _ _ _
  replace HQ : Qs W4 (some ⟨g, 0, none⟩) qs := by rw [hW4]; exact HQ.al _
  replace HB : Bel w W4 := by rw [hW4]; exact HB.al _
  obtain ⟨p, hp⟩ : ∃ p, p = w3.heap.size := ⟨_, rfl⟩
  rw [← hp] at HU ⊢
  clear hW4 hp HN HP hb
  go_upto_region 8 with fail
  go_cut [5, 6] from 20 to 26 (fun o v w' => ∃ pb g2 c2, o = .pointer (some ⟨pb, 0, none⟩) ∧ v = .int .i64 0 ∧ At w' pb [.slice (some ⟨g2, 0, none⟩) n c2] ∧ Qs w' (some ⟨g2, 0, none⟩) qs ∧ Bel W4 w')
  case first =>
    have HW := Bel.refl W4
    have lza := HU.lt
    go_region_held3 (fun w' => w'.cell? ⟨p, 0, none⟩ = some (.slice (some ⟨g, 0, none⟩) n c))
      (refine (?_ : At _ p [.slice (some ⟨g, 0, none⟩) n c]).c0 <;> (repeat (first | with_reducible exact HU | (with_reducible refine At.dr ?_) | (with_reducible refine At.al ?_ _) | (with_reducible refine At.far ?_ (by omega) _))))
      (first | (go_at_call 9; (with_reducible refine (CM.out _).mono ?_); rintro e w5 ⟨A, B, rfl, HN, HP, hbk⟩; replace hbk := Bel.hid hbk; (with_reducible (replace HB := HB.dr.up hbk; replace HW := HW.dr.up hbk; replace HU := HU.dr.up hbk; replace HQ := HQ.dr.up hbk)); have lz0 := HU.lt; have zs1 := Below.size HW; (try have lz9 := HX0.lt)) | (go_at_call 9; (with_reducible refine (CM.out _).mono ?_); rintro e w5 ⟨A, B, rfl, HN, HP, hbk⟩; replace hbk := Bel.hid hbk; (with_reducible (have HX0 := At.up (at_new0 _ [.slice none 0 0] _).dr hbk; replace HB := (HB.al _).dr.up hbk; replace HW := (HW.al _).dr.up hbk; replace HU := (HU.al _).dr.up hbk; replace HQ := (HQ.al _).dr.up hbk)); have lz0 := HU.lt; have zs1 := Below.size HW; (try have lz9 := HX0.lt)) | (go_at_call 11; (with_reducible refine (CS.out _ _ _ HQ).mono ?_); rintro e w6 ⟨rfl, hbk⟩; (with_reducible (replace HB := HB.up hbk; replace HW := HW.up hbk; replace HU := HU.up hbk; replace HQ := HQ.up hbk; replace HN := HN.up hbk; replace HP := HP.up hbk)); (try (with_reducible replace HX0 := HX0.up hbk)); have lz1 := HU.lt; have zs2 := Below.size HW; (try have lz8 := HX0.lt)) | (go_at_call 11; (with_reducible refine (CS.out _ _ _ (HQ.al _)).mono ?_); rintro e w6 ⟨rfl, hbk⟩; (with_reducible (have HX0 := At.up (at_new0 _ [.slice none 0 0] _) hbk; replace HB := (HB.al _).up hbk; replace HW := (HW.al _).up hbk; replace HU := (HU.al _).up hbk; replace HQ := (HQ.al _).up hbk; replace HN := (HN.al _).up hbk; replace HP := (HP.al _).up hbk)); (try (with_reducible replace HX0 := (HX0.al _).up hbk)); have lz1 := HU.lt; have zs2 := Below.size HW; (try have lz8 := HX0.lt)) | (go_at_call 8; (with_reducible refine (CP.out _ _ _ HN HP).mono ?_); rintro e w7 ⟨g2, c2, rfl, hg2, HQ2, hbk⟩; replace hbk := Bel.hid hbk; (with_reducible (replace HB := HB.up hbk; replace HW := HW.up hbk; replace HU := HU.up hbk; replace HQ := HQ.up hbk)); (try (with_reducible replace HX0 := HX0.up hbk)); (try have hx_0 := HX0.c0); (try have hx_f0 := HX0.f0); (try have hx_l := HX0.lt); have hg8 := hg2.out; (try simp at hg8); have zs3 := Below.size HW) | (go_at_call 8; (with_reducible refine (CP.out _ _ _ (HN.al _) (HP.al _)).mono ?_); rintro e w7 ⟨g2, c2, rfl, hg2, HQ2, hbk⟩; replace hbk := Bel.hid hbk; (with_reducible (have HX0 := At.up (at_new0 _ [.slice none 0 0] _) hbk; replace HB := (HB.al _).up hbk; replace HW := (HW.al _).up hbk; replace HU := (HU.al _).up hbk; replace HQ := (HQ.al _).up hbk)); (try (with_reducible replace HX0 := (HX0.al _).up hbk)); (try have hx_0 := HX0.c0); (try have hx_f0 := HX0.f0); (try have hx_l := HX0.lt); have hg8 := hg2.out; (try simp at hg8); have zs3 := Below.size HW) | fail)
    all_goals
      go_wp2_with fail
      go_meet
      case rel => refine ⟨_, g2, c2, rfl, rfl, ?_, ?_, ?_⟩ <;> (repeat (first | with_reducible exact HW | with_reducible exact HX0 | with_reducible exact at_new0 _ _ _ | with_reducible exact HQ2 | (with_reducible refine At.dr ?_) | (with_reducible refine At.putq (v := .slice none 0 0) ?_ _) | (with_reducible refine At.al ?_ _) | (with_reducible refine Bel.dr ?_) | (with_reducible refine Bel.al ?_ _) | (with_reducible refine Bel.putq ?_ (by omega) _) | (with_reducible refine Qs.al ?_ _) | (with_reducible refine Qs.dr ?_) | (with_reducible refine Qs.putg ?_ (by omega) HX0.c0 _)))
  case rest =>
    obtain ⟨pb, g2, c2, rfl, rfl, HV, HQ2, hW⟩ := hcut
    replace HU := HU.up hW.hid
    replace HB := HB.up hW.hid
    replace HQ := HQ.up hW.hid
    clear hW
    go_upto_region 9 with fail
    refine kwp_named ?_
    intro W9 hW9
    rw [← hW9] at HU HB HQ HQ2 HV
    clear hW9
    replace HU := HU.dr; replace HB := HB.dr; replace HQ := HQ.dr; replace HQ2 := HQ2.dr; replace HV := HV.dr
    refine wp_region_held_drew (S := fun w' => w'.cell? ⟨p, 0, none⟩ = some (.slice (some ⟨g, 0, none⟩) n c) ∧ w'.cell? ⟨pb, 0, none⟩ = some (.slice (some ⟨g2, 0, none⟩) n c2)) (by kernel_rfl) ?_ (fun hHeld => ?_)
    · exact ⟨HU.c0, HV.c0⟩
    (refine wpAnyH_take (i := 0) (v := ?_) rfl (by decide +kernel) (by decide +kernel) (by decide +kernel) (fun _ _ _ h => h) (Or.inl ⟨by rfl, ?_⟩) (by assumption) ?_; rotate_left; (focus ((intro w hSw; (try dsimp only at hSw); go_simp); (try (with_reducible rfl)); done)); (try simp only [List.getElem_toArray, List.getElem_cons_zero, List.getElem_cons_succ, Act.put, List.setIfInBounds_toArray, List.set_cons_zero, List.set_cons_succ]))
    (refine wpAnyH_take (i := 1) (v := ?_) rfl (by decide +kernel) (by decide +kernel) (by decide +kernel) (fun _ _ _ h => h) (Or.inl ⟨by rfl, ?_⟩) (by assumption) ?_; rotate_left; (focus ((intro w hSw; (try dsimp only at hSw); go_simp); (try (with_reducible rfl)); done)); (try simp only [List.getElem_toArray, List.getElem_cons_zero, List.getElem_cons_succ, Act.put, List.setIfInBounds_toArray, List.set_cons_zero, List.set_cons_succ]))
    (refine wpAnyH_take (i := 2) (v := ?_) rfl (by decide +kernel) (by decide +kernel) (by decide +kernel) (fun _ _ _ h => h) (Or.inl ⟨by rfl, ?_⟩) (by assumption) ?_; rotate_left; (focus ((intro w hSw; (try dsimp only at hSw); go_simp); (try (with_reducible rfl)); done)); (try simp only [List.getElem_toArray, List.getElem_cons_zero, List.getElem_cons_succ, Act.put, List.setIfInBounds_toArray, List.set_cons_zero, List.set_cons_succ]))
    (refine wpAnyH_take (i := 3) (v := ?_) rfl (by decide +kernel) (by decide +kernel) (by decide +kernel) (fun _ _ _ h => h) (Or.inl ⟨by rfl, ?_⟩) (by assumption) ?_; rotate_left; (focus ((intro w hSw; (try dsimp only at hSw); go_simp); (try (with_reducible rfl)); done)); (try simp only [List.getElem_toArray, List.getElem_cons_zero, List.getElem_cons_succ, Act.put, List.setIfInBounds_toArray, List.set_cons_zero, List.set_cons_succ]))
    (refine wpAnyH_take (i := 5) (v := ?_) rfl (by decide +kernel) (by decide +kernel) (by decide +kernel) (fun _ _ _ h => h) (Or.inl ⟨by rfl, ?_⟩) (by assumption) ?_; rotate_left; (focus ((intro w hSw; (try dsimp only at hSw); go_simp); (try (with_reducible rfl)); done)); (try simp only [List.getElem_toArray, List.getElem_cons_zero, List.getElem_cons_succ, Act.put, List.setIfInBounds_toArray, List.set_cons_zero, List.set_cons_succ]))
    (refine wpAnyH_ready (rs := [4]) (by decide +kernel) (by simp) ?_; refine AllReadyH.cons rfl (fun K hK => ?_) AllReadyH.nil; go_simp; (go_at_call 19; (with_reducible refine (CO.out _ _ _ HQ2).mono ?_); rintro e wx ⟨R1, d1, rfl, HR1, hb⟩; replace HU := HU.up (Bel.hid hb); replace HV := HV.up (Bel.hid hb); replace HQ := HQ.up (Bel.hid hb); replace HQ2 := HQ2.up (Bel.hid hb); replace HB := HB.up (Bel.hid hb)); (try (go_wp2_with fail)); refine hK.out _ _ ?_ (fun hHeld => ?_); (focus ((try dsimp only); (with_reducible exact ⟨HU.c0, HV.c0⟩))); clear hK K; (try simp only [List.getElem_toArray, List.getElem_cons_zero, List.getElem_cons_succ, Act.put, List.setIfInBounds_toArray, List.set_cons_zero, List.set_cons_succ]))
    (refine wpAnyH_ready (rs := [6]) (by decide +kernel) (by simp) ?_; refine AllReadyH.cons rfl (fun K hK => ?_) AllReadyH.nil; go_simp; (go_at_call 19; (with_reducible refine (CO.out _ _ _ HQ).mono ?_); rintro e wx ⟨R2, d2, rfl, HR2, hb⟩; replace HU := HU.up (Bel.hid hb); replace HV := HV.up (Bel.hid hb); replace HQ := HQ.up (Bel.hid hb); replace HQ2 := HQ2.up (Bel.hid hb); replace HB := HB.up (Bel.hid hb); replace HR1 := HR1.up (Bel.hid hb)); (try (go_wp2_with fail)); refine hK.out _ _ ?_ (fun hHeld => ?_); (focus ((try dsimp only); (with_reducible exact ⟨HU.c0, HV.c0⟩))); clear hK K; (try simp only [List.getElem_toArray, List.getElem_cons_zero, List.getElem_cons_succ, Act.put, List.setIfInBounds_toArray, List.set_cons_zero, List.set_cons_succ]))
    (refine wpAnyH_ready (rs := [7]) (by decide +kernel) (by simp) ?_; refine AllReadyH.cons rfl (fun K hK => ?_) AllReadyH.nil; go_simp; (go_at_call 18; (with_reducible refine (CE.out _ _ _ _ _ HR1 HR2).mono ?_); rintro e wx ⟨rfl, hb⟩; replace HU := HU.up (Bel.hid hb); replace HV := HV.up (Bel.hid hb); replace HQ := HQ.up (Bel.hid hb); replace HQ2 := HQ2.up (Bel.hid hb); replace HB := HB.up (Bel.hid hb)); (try (go_wp2_with fail)); refine hK.out _ _ ?_ (fun hHeld => ?_); (focus ((try dsimp only); (with_reducible exact ⟨HU.c0, HV.c0⟩))); clear hK K; (try simp only [List.getElem_toArray, List.getElem_cons_zero, List.getElem_cons_succ, Act.put, List.setIfInBounds_toArray, List.set_cons_zero, List.set_cons_succ]))
    (refine wpAnyH_take (i := 8) (v := ?_) rfl (by decide +kernel) (by decide +kernel) (by decide +kernel) (fun _ _ _ h => h) (Or.inl ⟨by rfl, ?_⟩) (by assumption) ?_; rotate_left; (focus ((intro w hSw; (try dsimp only at hSw); go_simp); (try (with_reducible rfl)); done)); (try simp only [List.getElem_toArray, List.getElem_cons_zero, List.getElem_cons_succ, Act.put, List.setIfInBounds_toArray, List.set_cons_zero, List.set_cons_succ]))
    (refine wpAnyH_take (i := 9) (v := ?_) rfl (by decide +kernel) (by decide +kernel) (by decide +kernel) (fun _ _ _ h => h) (Or.inl ⟨by rfl, ?_⟩) (by assumption) ?_; rotate_left; (focus ((intro w hSw; (try dsimp only at hSw); go_simp); (try (with_reducible rfl)); done)); (try simp only [List.getElem_toArray, List.getElem_cons_zero, List.getElem_cons_succ, Act.put, List.setIfInBounds_toArray, List.set_cons_zero, List.set_cons_succ]))
    (refine wpAnyH_take (i := 10) (v := ?_) rfl (by decide +kernel) (by decide +kernel) (by decide +kernel) (fun _ _ _ h => h) (Or.inl ⟨by rfl, ?_⟩) (by assumption) ?_; rotate_left; (focus ((intro w hSw; (try dsimp only at hSw); go_simp); (try (with_reducible rfl)); done)); (try simp only [List.getElem_toArray, List.getElem_cons_zero, List.getElem_cons_succ, Act.put, List.setIfInBounds_toArray, List.set_cons_zero, List.set_cons_succ]))
    (refine wpAnyH_take (i := 12) (v := ?_) rfl (by decide +kernel) (by decide +kernel) (by decide +kernel) (fun _ _ _ h => h) (Or.inl ⟨by rfl, ?_⟩) (by assumption) ?_; rotate_left; (focus ((intro w hSw; (try dsimp only at hSw); go_simp); (try (with_reducible rfl)); done)); (try simp only [List.getElem_toArray, List.getElem_cons_zero, List.getElem_cons_succ, Act.put, List.setIfInBounds_toArray, List.set_cons_zero, List.set_cons_succ]))
    (refine wpAnyH_ready (rs := [11]) (by decide +kernel) (by simp) ?_; refine AllReadyH.cons rfl (fun K hK => ?_) AllReadyH.nil; go_simp; (go_at_call 11; (with_reducible refine (CS.out _ _ _ HQ).mono ?_); rintro e wx ⟨rfl, hb⟩; replace HU := HU.up hb; replace HV := HV.up hb; replace HQ := HQ.up hb; replace HQ2 := HQ2.up hb; replace HB := HB.up hb); (try (go_wp2_with fail)); refine hK.out _ _ ?_ (fun hHeld => ?_); (focus ((try dsimp only); (with_reducible exact ⟨HU.c0, HV.c0⟩))); clear hK K; (try simp only [List.getElem_toArray, List.getElem_cons_zero, List.getElem_cons_succ, Act.put, List.setIfInBounds_toArray, List.set_cons_zero, List.set_cons_succ]))
    (refine wpAnyH_take (i := 13) (v := ?_) rfl (by decide +kernel) (by decide +kernel) (by decide +kernel) (fun _ _ _ h => h) (Or.inl ⟨by rfl, ?_⟩) (by assumption) ?_; rotate_left; (focus ((intro w hSw; (try dsimp only at hSw); go_simp); (try (with_reducible rfl)); done)); (try simp only [List.getElem_toArray, List.getElem_cons_zero, List.getElem_cons_succ, Act.put, List.setIfInBounds_toArray, List.set_cons_zero, List.set_cons_succ]))
    (refine wpAnyH_take (i := 14) (v := ?_) rfl (by decide +kernel) (by decide +kernel) (by decide +kernel) (fun _ _ _ h => h) (Or.inl ⟨by rfl, ?_⟩) (by assumption) ?_; rotate_left; (focus ((intro w hSw; (try dsimp only at hSw); go_simp); (try (with_reducible rfl)); done)); (try simp only [List.getElem_toArray, List.getElem_cons_zero, List.getElem_cons_succ, Act.put, List.setIfInBounds_toArray, List.set_cons_zero, List.set_cons_succ]))
    (refine wpAnyH_take (i := 15) (v := ?_) rfl (by decide +kernel) (by decide +kernel) (by decide +kernel) (fun _ _ _ h => h) (Or.inl ⟨by rfl, ?_⟩) (by assumption) ?_; rotate_left; (focus ((intro w hSw; (try dsimp only at hSw); go_simp); (try (with_reducible rfl)); done)); (try simp only [List.getElem_toArray, List.getElem_cons_zero, List.getElem_cons_succ, Act.put, List.setIfInBounds_toArray, List.set_cons_zero, List.set_cons_succ]))
    (refine wpAnyH_take (i := 17) (v := ?_) rfl (by decide +kernel) (by decide +kernel) (by decide +kernel) (fun _ _ _ h => h) (Or.inl ⟨by rfl, ?_⟩) (by assumption) ?_; rotate_left; (focus ((intro w hSw; (try dsimp only at hSw); go_simp); (try (with_reducible rfl)); done)); (try simp only [List.getElem_toArray, List.getElem_cons_zero, List.getElem_cons_succ, Act.put, List.setIfInBounds_toArray, List.set_cons_zero, List.set_cons_succ]))
    (refine wpAnyH_ready (rs := [16]) (by decide +kernel) (by simp) ?_; refine AllReadyH.cons rfl (fun K hK => ?_) AllReadyH.nil; go_simp; (go_at_call 9; (with_reducible refine (CM.out _).mono ?_); rintro e wx ⟨A, B, rfl, HN, HP, hb⟩; replace HU := HU.up (Bel.hid hb); replace HV := HV.up (Bel.hid hb); replace HQ := HQ.up (Bel.hid hb); replace HQ2 := HQ2.up (Bel.hid hb); replace HB := HB.up (Bel.hid hb)); (try (go_wp2_with fail)); refine hK.out _ _ ?_ (fun hHeld => ?_); (focus ((try dsimp only); (with_reducible exact ⟨HU.c0, HV.c0⟩))); clear hK K; (try simp only [List.getElem_toArray, List.getElem_cons_zero, List.getElem_cons_succ, Act.put, List.setIfInBounds_toArray, List.set_cons_zero, List.set_cons_succ]))
    (refine wpAnyH_ready (rs := [18]) (by decide +kernel) (by simp) ?_; refine AllReadyH.cons rfl (fun K hK => ?_) AllReadyH.nil; go_simp; (go_at_call 13; (with_reducible refine (CG.out _ _ _ _ _ HN HP HQ).mono ?_); rintro e wx ⟨rfl, hb⟩; replace HU := HU.up (Bel.hid hb); replace HV := HV.up (Bel.hid hb); replace HQ := HQ.up (Bel.hid hb); replace HQ2 := HQ2.up (Bel.hid hb); replace HB := HB.up (Bel.hid hb)); (try (go_wp2_with fail)); refine hK.out _ _ ?_ (fun hHeld => ?_); (focus ((try dsimp only); (with_reducible exact ⟨HU.c0, HV.c0⟩))); clear hK K; (try simp only [List.getElem_toArray, List.getElem_cons_zero, List.getElem_cons_succ, Act.put, List.setIfInBounds_toArray, List.set_cons_zero, List.set_cons_succ]))
    (refine wpAnyH_take (i := 19) (v := ?_) rfl (by decide +kernel) (by decide +kernel) (by decide +kernel) (fun _ _ _ h => h) (Or.inl ⟨by rfl, ?_⟩) (by assumption) ?_; rotate_left; (focus ((intro w hSw; (try dsimp only at hSw); go_simp); (try (with_reducible rfl)); done)); (try simp only [List.getElem_toArray, List.getElem_cons_zero, List.getElem_cons_succ, Act.put, List.setIfInBounds_toArray, List.set_cons_zero, List.set_cons_succ]))
    (refine wpAnyH_take (i := 20) (v := ?_) rfl (by decide +kernel) (by decide +kernel) (by decide +kernel) (fun _ _ _ h => h) (Or.inl ⟨by rfl, ?_⟩) (by assumption) ?_; rotate_left; (focus ((intro w hSw; (try dsimp only at hSw); go_simp); (try (with_reducible rfl)); done)); (try simp only [List.getElem_toArray, List.getElem_cons_zero, List.getElem_cons_succ, Act.put, List.setIfInBounds_toArray, List.set_cons_zero, List.set_cons_succ]))
    refine wpAnyH_done (by decide +kernel) ?_ _
    go_wp2_with fail
    go_ret
    exact ⟨rfl, HB⟩
theorem uback_any (s : ByteArray) (w : World) : Calls Tryz.prog 5 #[.string s] w (RetB w true) := by
  by_cases h : 300 < s.size
  · exact uback_long h
  · cases hD : unitD uN uP s with
    | error v => exact uback_err h hD
    | ok r => exact uback_ok h hD
end
theorem uback_all {s : ByteArray} {p : Prop} (w : World) (_ : p) : Calls Tryz.prog 5 #[.string s] w (fun e w' => e = .returned (.bool true) ∧ Below w.heap.size w w') := uback_any s w
end Go.Proofs.YthdpojkeceoiiaaGreatDoor
end
