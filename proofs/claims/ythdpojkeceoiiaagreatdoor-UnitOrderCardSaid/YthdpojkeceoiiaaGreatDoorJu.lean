/- Plain mathematics: a unit that was read is shown as it was. No conditions. -/
import Derived.Test.YthdpojkeceoiiaaGreatDoorGOkc28
import Derived.Test.YthdpojkeceoiiaaGreatDoorGOkc3
open Go.RowKit
set_option maxRecDepth 100000
namespace Go.Proofs.YthdpojkeceoiiaaGreatDoor
/-- The words, a hyphen ahead of each. -/
def tl (xs : List ByteArray) : List UInt8 := xs.flatMap fun x => 45 :: x.data.toList
theorem tl_app (xs ys : List ByteArray) : tl (xs ++ ys) = tl xs ++ tl ys := List.flatMap_append
theorem tl_cons (x : ByteArray) (xs : List ByteArray) : tl (x :: xs) = 45 :: (x.data.toList ++ tl xs) := rfl
theorem tl_one (x : ByteArray) : tl [x] = 45 :: x.data.toList := by simp [tl]
theorem tl_glue : ∀ {xs : List ByteArray}, xs ≠ [] → tl xs = 45 :: glue 45 (xs.map (·.data.toList))
  | [], h => absurd rfl h
  | [x], _ => tl_one x
  | x :: y :: xs, _ => by
    rw [tl_cons, tl_glue (xs := y :: xs) (by simp)]
    rfl
theorem tl_two (s u : ByteArray) : tl [s ++ ⟨#[45]⟩ ++ u] = tl [s, u] := by
  rw [tl_one, tl_cons, tl_one, app_data, app_data]
  simp
/-- What an atom was read from. -/
theorem parse_words {names ps l : List ByteArray} (h : (parseA names ps l).ok = true) :
    (∃ u r, l = u :: r ∧ (parseA names ps l).t = 1 ∧ showB (parseA names ps l).p (parseA names ps l).n ((parseA names ps l).k : Int) = u ∧ (parseA names ps l).p.size + (parseA names ps l).n.size = u.size) ∨
    (∃ s u r, l = s :: u :: r ∧ (parseA names ps l).t = 2 ∧ showB (parseA names ps l).p (parseA names ps l).n ((parseA names ps l).k : Int) = s ++ ⟨#[45]⟩ ++ u ∧ (parseA names ps l).p.size + (parseA names ps l).n.size = u.size) := by
  cases hu : l[(leadP l).2]? with
  | none => unfold parseA at h; rw [hu] at h; cases h
  | some u =>
    have e : parseA names ps l = parseU names ps (leadP l).1 (leadP l).2 u := by unfold parseA; rw [hu]
    rw [e] at h ⊢
    have hs : (sizeP names ps u).2 = true := by
      unfold parseU at h
      split at h
      · assumption
      · cases h
    have e2 : parseU names ps (leadP l).1 (leadP l).2 u = ⟨u.extract 0 (sizeP names ps u).1, restB u (sizeP names ps u).1, (leadP l).1, (leadP l).2 + 1, true⟩ := by unfold parseU; rw [if_pos hs]
    rw [e2]
    have hle := sizeP_le names ps u
    have hj := cut_join u _ hle
    have hz : (u.extract 0 (sizeP names ps u).1).size + (restB u (sizeP names ps u).1).size = u.size := by rw [← ByteArray.size_append, hj]
    rcases leadP_form l with hl | ⟨s, r, hl1, hl2, h1, h2, h3⟩
    · rw [hl] at hu ⊢
      left
      cases l with
      | nil => simp at hu
      | cons u' r =>
        simp at hu
        subst hu
        refine ⟨u', r, rfl, rfl, ?_, hz⟩
        show showB (u'.extract 0 _) (restB u' _) 1 = u'
        unfold showB
        rw [if_neg (by omega), if_pos rfl, hj]
    · rw [hl2] at hu ⊢
      right
      subst hl1
      cases r with
      | nil => simp at hu
      | cons u' r =>
        simp at hu
        subst hu
        refine ⟨s, u', r, rfl, rfl, ?_, hz⟩
        show showB (u'.extract 0 _) (restB u' _) ((powOf s : Nat) : Int) = _
        unfold showB
        rw [if_neg (by omega), if_neg (by omega), hj, Int.toNat_natCast, ← h3, join_two]
theorem atoms_T {names ps : List ByteArray} : ∀ (k : Nat) {l : List ByteArray} {r : List AL} {m : Nat}, l.length ≤ k → atomsL names ps l = some r → (∀ x ∈ l, x.size ≤ m) → tl (showsA r) = tl l ∧ SmallL r m
  | _, [], r, m, _, h, _ => by injection h with h; subst h; exact ⟨rfl, fun a ha => by cases ha⟩
  | 0, u :: l, r, m, hk, h, _ => by simp at hk
  | k + 1, u0 :: l, r, m, hk, h, hm => by
    by_cases e : (parseA names ps (u0 :: l)).ok = true
    · rw [atomsL_more e] at h
      have hw := parse_words e
      obtain ⟨pa, hpa⟩ : ∃ x, parseA names ps (u0 :: l) = x := ⟨_, rfl⟩
      rw [hpa] at h hw
      cases hh : atomsL names ps ((u0 :: l).drop pa.t) with
      | none => rw [hh] at h; cases h
      | some r' =>
        rw [hh] at h
        injection h with h
        have hx : ∀ {xs ys : List ByteArray}, xs.length = pa.t → u0 :: l = xs ++ ys → 0 < pa.t → tl [showB pa.p pa.n (pa.k : Int)] = tl xs → pa.p.size + pa.n.size ≤ m → tl (showsA r) = tl (u0 :: l) ∧ SmallL r m := fun {xs ys} hl hxy h0 ht hs => by
          have hd : (u0 :: l).drop pa.t = ys := by rw [hxy, ← hl, List.drop_left]
          rw [hd] at hh
          have hy : ys.length ≤ k := by
            have := congrArg List.length hxy
            rw [List.length_append, List.length_cons] at this
            simp at hk; omega
          obtain ⟨i1, i2⟩ := atoms_T k hy hh (fun x hx => hm x (by rw [hxy]; exact List.mem_append_right _ hx))
          rw [← h, hxy, tl_app]
          refine ⟨?_, fun a ha => ?_⟩
          · show tl (showB pa.p pa.n (pa.k : Int) :: showsA r') = _
            rw [← i1, ← ht, ← tl_app]; rfl
          · rcases List.mem_cons.1 ha with rfl | ha
            · exact hs
            · exact i2 a ha
        rcases hw with ⟨u, r0, e1, e2, e3, e4⟩ | ⟨s, u, r0, e1, e2, e3, e4⟩
        · refine hx (xs := [u]) (ys := r0) (by rw [e2]; rfl) (by rw [e1]; rfl) (by omega) (by rw [e3]) ?_
          rw [e4]; exact hm u (by rw [e1]; simp)
        · refine hx (xs := [s, u]) (ys := r0) (by rw [e2]; rfl) (by rw [e1]; rfl) (by omega) (by rw [e3, tl_two]) ?_
          rw [e4]; exact hm u (by rw [e1]; simp)
    · rw [atomsL_bad (by simp) (by simpa using e)] at h; cases h
theorem glue_sole {l a : List ByteArray} (h : cutBy perB l = [a]) : l = a := by
  have := glue_cutBy (a := perB) l
  rw [h] at this
  exact this.symm
theorem glue_pair {l a d : List ByteArray} (h : cutBy perB l = [a, d]) : l = a ++ perB :: d := by
  have := glue_cutBy (a := perB) l
  rw [h] at this
  exact this.symm
theorem headD_T (d : List ByteArray) (h : d ≠ []) : ((headD d).1 = oneB ∧ (headD d).2 = d) ∨ ((headD d).1 ≠ oneB ∧ d = (headD d).1 :: (headD d).2) := by
  cases d with
  | nil => exact absurd rfl h
  | cons x d =>
    by_cases e : numW x.data.toList = true ∧ x ≠ oneB
    · right
      have e2 : headD (x :: d) = (x, d) := if_pos e
      rw [e2]; exact ⟨e.2, rfl⟩
    · left
      have e2 : headD (x :: d) = (oneB, x :: d) := if_neg e
      rw [e2]; exact ⟨rfl, rfl⟩
/-- A part is shown as it was read. -/
theorem part_T {names ps l : List ByteArray} {p : PL} {m : Nat} (h : partD names ps l = some p) (hm : ∀ x ∈ l, x.size ≤ m) : tl (partW p) = tl l ∧ SmallL p.1 m ∧ SmallL p.2.1 m ∧ l ≠ [] ∧ partW p ≠ [] := by
  unfold partD at h
  have key : tl (partW p) = tl l → l ≠ [] → partW p ≠ [] := fun h1 h2 h3 => by
    rw [h3] at h1
    cases l with
    | nil => exact h2 rfl
    | cons x l => rw [tl_cons] at h1; cases h1
  match hc : cutBy perB l with
  | [] => rw [hc] at h; cases h
  | _ :: _ :: _ :: _ => rw [hc] at h; cases h
  | [a] =>
    rw [hc, partC_sole] at h
    cases hr : atomsL names ps a with
    | none => rw [hr] at h; cases h
    | some r =>
      rw [hr] at h
      simp only [Option.bind_some] at h
      by_cases h1 : 0 < r.length ∧ r.length ≤ 8
      · rw [if_pos h1] at h
        injection h with h
        subst h
        obtain rfl := glue_sole hc
        obtain ⟨i1, i2⟩ := atoms_T _ (Nat.le_refl _) hr hm
        have e : partW (r, [], oneB) = showsA r := if_pos ⟨rfl, rfl⟩
        have hl : l ≠ [] := fun e0 => by
          subst e0
          injection hr with hr
          subst hr
          exact absurd h1.1 (by decide)
        have h5 : tl (partW (r, [], oneB)) = tl l := by rw [e]; exact i1
        exact ⟨h5, i2, (fun a ha => by cases ha), hl, key h5 hl⟩
      · rw [if_neg h1] at h; cases h
  | [a, d] =>
    rw [hc, partC_two] at h
    by_cases h0 : d = []
    · rw [if_pos h0] at h; cases h
    · rw [if_neg h0] at h
      cases hr : atomsL names ps a with
      | none => rw [hr] at h; cases h
      | some r =>
        cases hs : atomsL names ps (headD d).2 with
        | none => rw [hr, hs] at h; cases h
        | some s =>
          rw [hr, hs] at h
          simp only [Option.bind_some] at h
          by_cases h1 : r.length + s.length ≤ 8
          · rw [if_pos h1] at h
            injection h with h
            subst h
            have hg := glue_pair hc
            have hl : l ≠ [] := by rw [hg]; simp
            have hma : ∀ x ∈ a, x.size ≤ m := fun x hx => hm x (by rw [hg]; exact List.mem_append_left _ hx)
            have hmd : ∀ x ∈ (headD d).2, x.size ≤ m := fun x hx => hm x (by
              rw [hg]
              refine List.mem_append_right _ (List.mem_cons_of_mem _ ?_)
              rcases headD_T d h0 with ⟨_, e⟩ | ⟨_, e⟩
              · rw [e] at hx; exact hx
              · rw [e]; exact List.mem_cons_of_mem _ hx)
            obtain ⟨i1, i2⟩ := atoms_T _ (Nat.le_refl _) hr hma
            obtain ⟨j1, j2⟩ := atoms_T _ (Nat.le_refl _) hs hmd
            have h5 : tl (partW (r, s, (headD d).1)) = tl l := by
              rcases headD_T d h0 with ⟨e1, e2⟩ | ⟨e1, e2⟩
              · rw [e2] at hs j1
                have hs0 : s ≠ [] := fun e0 => by
                  have := atomsL_pos hs h0
                  rw [e0] at this
                  exact absurd this (by decide)
                have e3 : partW (r, s, (headD d).1) = showsA r ++ [perB] ++ showsA s := by
                  rw [e1]
                  exact (if_neg (fun k => hs0 k.1)).trans (if_pos rfl)
                rw [e3, tl_app, tl_app, i1, j1, hg, tl_app]
                rw [show perB :: d = [perB] ++ d from rfl, tl_app, List.append_assoc]
              · have e3 : partW (r, s, (headD d).1) = showsA r ++ [perB] ++ [(headD d).1] ++ showsA s :=
                  (if_neg (fun k => e1 k.2)).trans (if_neg e1)
                rw [e3, tl_app, tl_app, tl_app, i1, j1, hg, tl_app]
                rw [show perB :: d = [perB] ++ ([(headD d).1] ++ (headD d).2) from by rw [show [(headD d).1] ++ (headD d).2 = d from e2.symm]; rfl, tl_app, tl_app]
                simp only [List.append_assoc]
            exact ⟨h5, i2, j2, hl, key h5 hl⟩
          · rw [if_neg h1] at h; cases h
theorem partS_T {names ps l : List ByteArray} {p : PL} {m : Nat} (h : partD names ps l = some p) (hm : ∀ x ∈ l, x.size ≤ m) : 45 :: (partS p).data.toList = tl l := by
  obtain ⟨h1, _, _, _, h5⟩ := part_T h hm
  rw [← h1, tl_glue h5]; rfl
theorem parts_T {names ps : List ByteArray} {m : Nat} : ∀ {css : List (List ByteArray)} {r : List PL}, css ≠ [] → partsL names ps css = some r → (∀ l ∈ css, ∀ x ∈ l, x.size ≤ m) →
    45 :: Lib.join ((r.map partS).map (·.data.toList)) sepB.data.toList = tl (glue andB css)
  | [], _, h, _, _ => absurd rfl h
  | [l], r, _, h, hm => by
    unfold partsL at h
    cases hp : partD names ps l with
    | none => rw [hp] at h; cases h
    | some p =>
      rw [hp] at h
      injection h with h
      subst h
      show 45 :: Lib.join [(partS p).data.toList] _ = tl l
      rw [Lib.join_one]
      exact partS_T hp (hm l (by simp))
  | l :: l2 :: css, r, _, h, hm => by
    unfold partsL at h
    cases hp : partD names ps l with
    | none => rw [hp] at h; cases h
    | some p =>
      rw [hp] at h
      simp only [Option.bind_some] at h
      cases hr : partsL names ps (l2 :: css) with
      | none => rw [hr] at h; cases h
      | some r' =>
        rw [hr] at h
        injection h with h
        have ih := parts_T (by simp) hr (fun l' hl' => hm l' (List.mem_cons_of_mem _ hl'))
        have h1 := partS_T hp (hm l (by simp))
        have hlen := partsL_len hr
        cases r' with
        | nil => simp at hlen
        | cons p2 r2 =>
          rw [← h]
          show 45 :: Lib.join ((partS p).data.toList :: ((p2 :: r2).map partS).map (·.data.toList)) sepB.data.toList = tl (l ++ andB :: glue andB (l2 :: css))
          rw [show andB :: glue andB (l2 :: css) = [andB] ++ glue andB (l2 :: css) from rfl, tl_app, tl_app, ← ih, ← h1, tl_one]
          rw [Lib.join_cons]
          show 45 :: ((partS p).data.toList ++ Lib.joinTail _ ((partS p2).data.toList :: (r2.map partS).map (·.data.toList))) = _
          rw [show ((p2 :: r2).map partS).map (·.data.toList) = (partS p2).data.toList :: (r2.map partS).map (·.data.toList) from rfl, Lib.join_cons]
          unfold Lib.joinTail
          rw [List.map_cons, List.flatten_cons]
          show _ = 45 :: (partS p).data.toList ++ (45 :: andB.data.toList ++ (45 :: ((partS p2).data.toList ++ _)))
          rw [show sepB.data.toList = 45 :: andB.data.toList ++ [45] from by decide +kernel]
          simp
/-- A unit that is read is shown as it was. -/
theorem unit_back {names ps : List ByteArray} {s : ByteArray} {r : List PL} (h : unitD names ps s = .ok r) : unitS r = s := by
  obtain ⟨h1, h2, h3, h4⟩ := unitD_ok h
  have hm : ∀ l ∈ cutBy andB (pcs s), ∀ x ∈ l, x.size ≤ 20 := fun l hl x hx => goodAll_size h2 x (cutBy_mem _ l hl x hx)
  have hne : pcs s ≠ [] := fun e => by have := pcs_len s; rw [e] at this; simp at this
  have h5 := parts_T (cutBy_ne _) h3 hm
  rw [glue_cutBy, tl_glue hne, pcs_parts] at h5
  have h6 : glue 45 (parts s.data.toList) = s.data.toList := glue_cutBy _
  rw [h6, ← unitS_join] at h5
  injection h5 with _ h5
  exact ByteArray.ext (Array.ext' h5)
theorem map_back {r : List PL} (h : ∀ p ∈ r, okP p) : (r.map ofP).map toP = r := by
  rw [List.map_map]
  conv => rhs; rw [← List.map_id r]
  exact List.map_congr_left fun p hp => toP_ofP (h p hp)
theorem sameA_self (l : List AL) : sameA l l = true := decide_eq_true rfl
theorem sameQ_self (p : PL) : sameQ (ofP p) (ofP p) = true := by
  unfold sameQ
  rw [sameA_self, sameA_self, decide_eq_true rfl]
  show (goodB (digs W32 _) && _) = true
  rw [goodB_digs]; rfl
theorem sameQs_self : ∀ r : List PL, sameQs (r.map ofP) (r.map ofP) = true
  | [] => rfl
  | p :: r => by
    show (sameQ (ofP p) (ofP p) && sameQs (r.map ofP) (r.map ofP)) = true
    rw [sameQ_self, sameQs_self r]; rfl
theorem great_of {names ps l : List ByteArray} {p : PL} (h : partD names ps l = some p) (hm : ∀ x ∈ l, x.size ≤ 20) : greatQ (ofP p) = false := by
  obtain ⟨_, h2, h3, _, _⟩ := part_T h hm
  have h4 : okP p ∧ p.1.length + p.2.1.length ≤ 8 := partC_ok h
  have h5 : (digs W32 (nuOf p.2.2)).length ≤ 3 := numW_dl h4.1
  have a1 : ∀ {l : List AL}, SmallL l 20 → l.any longA = false := fun {l} hs => by
    rw [List.any_eq_false]
    intro a ha
    unfold longA
    have := hs a ha
    simp; omega
  unfold greatQ
  show (decide (3 < (digs W32 (nuOf p.2.2)).length) || (decide (8 < p.1.length + p.2.1.length) || (p.1.any longA || p.2.1.any longA))) = false
  rw [a1 h2, a1 h3, decide_eq_false (by omega), decide_eq_false (by omega)]; rfl
theorem greats_of {names ps : List ByteArray} : ∀ {css : List (List ByteArray)} {r : List PL}, partsL names ps css = some r → (∀ l ∈ css, ∀ x ∈ l, x.size ≤ 20) → (r.map ofP).any greatQ = false
  | [], r, h, _ => by injection h with h; subst h; rfl
  | l :: css, r, h, hm => by
    unfold partsL at h
    cases hp : partD names ps l with
    | none => rw [hp] at h; cases h
    | some p =>
      cases hr : partsL names ps css with
      | none => rw [hp, hr] at h; cases h
      | some r' =>
        rw [hp, hr] at h
        injection h with h
        rw [← h]
        show (greatQ (ofP p) || (r'.map ofP).any greatQ) = false
        rw [great_of hp (hm l (by simp)), greats_of hr (fun l' hl' => hm l' (List.mem_cons_of_mem _ hl'))]; rfl
/-- A unit that was read may be. -/
theorem goodU_back {names ps : List ByteArray} {s : ByteArray} {r : List PL} (h : unitD names ps s = .ok r) : goodU names ps (r.map ofP) = true := by
  obtain ⟨h1, h2, h3, h4⟩ := unitD_ok h
  have hm : ∀ l ∈ cutBy andB (pcs s), ∀ x ∈ l, x.size ≤ 20 := fun l hl x hx => goodAll_size h2 x (cutBy_mem _ l hl x hx)
  unfold goodU
  rw [List.length_map, decide_eq_true h4, greats_of h3 hm, map_back (fun p hp => (partsL_ok h3 p hp).1), unit_back h, h]
  exact sameQs_self r
end Go.Proofs.YthdpojkeceoiiaaGreatDoor
