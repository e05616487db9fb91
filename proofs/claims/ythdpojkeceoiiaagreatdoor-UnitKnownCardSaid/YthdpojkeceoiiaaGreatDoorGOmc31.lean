/- Several texts in one, each with its own sentence and conditions. -/
import Derived.Test.YthdpojkeceoiiaaGreatDoorGOmc30
import Derived.Test.YthdpojkeceoiiaaGreatDoorGOmc3
import Derived.Test.YthdpojkeceoiiaaGreatDoorGOmc26
section
/- Plain mathematics: a unit that was read is shown as it was. No conditions. -/
open Go.RowKit
set_option maxRecDepth 100000
namespace Go.Proofs.YthdpojkeceoiiaaGreatDoor
/-- The words, a hyphen ahead of each. -/
def tl (xs : List ByteArray) : List UInt8 := xs.flatMap fun x => 45 :: x.data.toList
theorem tl_app (xs ys : List ByteArray) : tl (xs ++ ys) = tl xs ++ tl ys := List.flatMap_append
theorem tl_cons (x : ByteArray) (xs : List ByteArray) : tl (x :: xs) = 45 :: (x.data.toList ++ tl xs) := rfl
theorem tl_one (x : ByteArray) : tl [x] = 45 :: x.data.toList := by simp [tl]
theorem tl_glue : ∀ {xs : List ByteArray}, xs ≠ [] → tl xs = 45 :: glue 45 (xs.map (·.data.toList))
  | [], h => absurd rfl h
  | [x], _ => tl_one x
  | x :: y :: xs, _ => by
    rw [tl_cons, tl_glue (xs := y :: xs) (by simp)]
    rfl
theorem tl_two (s u : ByteArray) : tl [s ++ ⟨#[45]⟩ ++ u] = tl [s, u] := by
  rw [tl_one, tl_cons, tl_one, app_data, app_data]
  simp
/-- What an atom was read from. -/
theorem parse_words {names ps l : List ByteArray} (h : (parseA names ps l).ok = true) :
    (∃ u r, l = u :: r ∧ (parseA names ps l).t = 1 ∧ showB (parseA names ps l).p (parseA names ps l).n ((parseA names ps l).k : Int) = u ∧ (parseA names ps l).p.size + (parseA names ps l).n.size = u.size) ∨
    (∃ s u r, l = s :: u :: r ∧ (parseA names ps l).t = 2 ∧ showB (parseA names ps l).p (parseA names ps l).n ((parseA names ps l).k : Int) = s ++ ⟨#[45]⟩ ++ u ∧ (parseA names ps l).p.size + (parseA names ps l).n.size = u.size) := by
  cases hu : l[(leadP l).2]? with
  | none => unfold parseA at h; rw [hu] at h; cases h
  | some u =>
    have e : parseA names ps l = parseU names ps (leadP l).1 (leadP l).2 u := by unfold parseA; rw [hu]
    rw [e] at h ⊢
    have hs : (sizeP names ps u).2 = true := by
      unfold parseU at h
      split at h
      · assumption
      · cases h
    have e2 : parseU names ps (leadP l).1 (leadP l).2 u = ⟨u.extract 0 (sizeP names ps u).1, restB u (sizeP names ps u).1, (leadP l).1, (leadP l).2 + 1, true⟩ := by unfold parseU; rw [if_pos hs]
    rw [e2]
    have hle := sizeP_le names ps u
    have hj := cut_join u _ hle
    have hz : (u.extract 0 (sizeP names ps u).1).size + (restB u (sizeP names ps u).1).size = u.size := by rw [← ByteArray.size_append, hj]
    rcases leadP_form l with hl | ⟨s, r, hl1, hl2, h1, h2, h3⟩
    · rw [hl] at hu ⊢
      left
      cases l with
      | nil => simp at hu
      | cons u' r =>
        simp at hu
        subst hu
        refine ⟨u', r, rfl, rfl, ?_, hz⟩
        show showB (u'.extract 0 _) (restB u' _) 1 = u'
        unfold showB
        rw [if_neg (by omega), if_pos rfl, hj]
    · rw [hl2] at hu ⊢
      right
      subst hl1
      cases r with
      | nil => simp at hu
      | cons u' r =>
        simp at hu
        subst hu
        refine ⟨s, u', r, rfl, rfl, ?_, hz⟩
        show showB (u'.extract 0 _) (restB u' _) ((powOf s : Nat) : Int) = _
        unfold showB
        rw [if_neg (by omega), if_neg (by omega), hj, Int.toNat_natCast, ← h3, join_two]
theorem atoms_T {names ps : List ByteArray} : ∀ (k : Nat) {l : List ByteArray} {r : List AL} {m : Nat}, l.length ≤ k → atomsL names ps l = some r → (∀ x ∈ l, x.size ≤ m) → tl (showsA r) = tl l ∧ SmallL r m
  | _, [], r, m, _, h, _ => by injection h with h; subst h; exact ⟨rfl, fun a ha => by cases ha⟩
  | 0, u :: l, r, m, hk, h, _ => by simp at hk
  | k + 1, u0 :: l, r, m, hk, h, hm => by
    by_cases e : (parseA names ps (u0 :: l)).ok = true
    · rw [atomsL_more e] at h
      have hw := parse_words e
      obtain ⟨pa, hpa⟩ : ∃ x, parseA names ps (u0 :: l) = x := ⟨_, rfl⟩
      rw [hpa] at h hw
      cases hh : atomsL names ps ((u0 :: l).drop pa.t) with
      | none => rw [hh] at h; cases h
      | some r' =>
        rw [hh] at h
        injection h with h
        have hx : ∀ {xs ys : List ByteArray}, xs.length = pa.t → u0 :: l = xs ++ ys → 0 < pa.t → tl [showB pa.p pa.n (pa.k : Int)] = tl xs → pa.p.size + pa.n.size ≤ m → tl (showsA r) = tl (u0 :: l) ∧ SmallL r m := fun {xs ys} hl hxy h0 ht hs => by
          have hd : (u0 :: l).drop pa.t = ys := by rw [hxy, ← hl, List.drop_left]
          rw [hd] at hh
          have hy : ys.length ≤ k := by
            have := congrArg List.length hxy
            rw [List.length_append, List.length_cons] at this
            simp at hk; omega
          obtain ⟨i1, i2⟩ := atoms_T k hy hh (fun x hx => hm x (by rw [hxy]; exact List.mem_append_right _ hx))
          rw [← h, hxy, tl_app]
          refine ⟨?_, fun a ha => ?_⟩
          · show tl (showB pa.p pa.n (pa.k : Int) :: showsA r') = _
            rw [← i1, ← ht, ← tl_app]; rfl
          · rcases List.mem_cons.1 ha with rfl | ha
            · exact hs
            · exact i2 a ha
        rcases hw with ⟨u, r0, e1, e2, e3, e4⟩ | ⟨s, u, r0, e1, e2, e3, e4⟩
        · refine hx (xs := [u]) (ys := r0) (by rw [e2]; rfl) (by rw [e1]; rfl) (by omega) (by rw [e3]) ?_
          rw [e4]; exact hm u (by rw [e1]; simp)
        · refine hx (xs := [s, u]) (ys := r0) (by rw [e2]; rfl) (by rw [e1]; rfl) (by omega) (by rw [e3, tl_two]) ?_
          rw [e4]; exact hm u (by rw [e1]; simp)
    · rw [atomsL_bad (by simp) (by simpa using e)] at h; cases h
theorem glue_sole {l a : List ByteArray} (h : cutBy perB l = [a]) : l = a := by
  have := glue_cutBy (a := perB) l
  rw [h] at this
  exact this.symm
theorem glue_pair {l a d : List ByteArray} (h : cutBy perB l = [a, d]) : l = a ++ perB :: d := by
  have := glue_cutBy (a := perB) l
  rw [h] at this
  exact this.symm
theorem headD_T (d : List ByteArray) (h : d ≠ []) : ((headD d).1 = oneB ∧ (headD d).2 = d) ∨ ((headD d).1 ≠ oneB ∧ d = (headD d).1 :: (headD d).2) := by
  cases d with
  | nil => exact absurd rfl h
  | cons x d =>
    by_cases e : numW x.data.toList = true ∧ x ≠ oneB
    · right
      have e2 : headD (x :: d) = (x, d) := if_pos e
      rw [e2]; exact ⟨e.2, rfl⟩
    · left
      have e2 : headD (x :: d) = (oneB, x :: d) := if_neg e
      rw [e2]; exact ⟨rfl, rfl⟩
/-- A part is shown as it was read. -/
theorem part_T {names ps l : List ByteArray} {p : PL} {m : Nat} (h : partD names ps l = some p) (hm : ∀ x ∈ l, x.size ≤ m) : tl (partW p) = tl l ∧ SmallL p.1 m ∧ SmallL p.2.1 m ∧ l ≠ [] ∧ partW p ≠ [] := by
  unfold partD at h
  have key : tl (partW p) = tl l → l ≠ [] → partW p ≠ [] := fun h1 h2 h3 => by
    rw [h3] at h1
    cases l with
    | nil => exact h2 rfl
    | cons x l => rw [tl_cons] at h1; cases h1
  match hc : cutBy perB l with
  | [] => rw [hc] at h; cases h
  | _ :: _ :: _ :: _ => rw [hc] at h; cases h
  | [a] =>
    rw [hc, partC_sole] at h
    cases hr : atomsL names ps a with
    | none => rw [hr] at h; cases h
    | some r =>
      rw [hr] at h
      simp only [Option.bind_some] at h
      by_cases h1 : 0 < r.length ∧ r.length ≤ 8
      · rw [if_pos h1] at h
        injection h with h
        subst h
        obtain rfl := glue_sole hc
        obtain ⟨i1, i2⟩ := atoms_T _ (Nat.le_refl _) hr hm
        have e : partW (r, [], oneB) = showsA r := if_pos ⟨rfl, rfl⟩
        have hl : l ≠ [] := fun e0 => by
          subst e0
          injection hr with hr
          subst hr
          exact absurd h1.1 (by decide)
        have h5 : tl (partW (r, [], oneB)) = tl l := by rw [e]; exact i1
        exact ⟨h5, i2, (fun a ha => by cases ha), hl, key h5 hl⟩
      · rw [if_neg h1] at h; cases h
  | [a, d] =>
    rw [hc, partC_two] at h
    by_cases h0 : d = []
    · rw [if_pos h0] at h; cases h
    · rw [if_neg h0] at h
      cases hr : atomsL names ps a with
      | none => rw [hr] at h; cases h
      | some r =>
        cases hs : atomsL names ps (headD d).2 with
        | none => rw [hr, hs] at h; cases h
        | some s =>
          rw [hr, hs] at h
          simp only [Option.bind_some] at h
          by_cases h1 : r.length + s.length ≤ 8
          · rw [if_pos h1] at h
            injection h with h
            subst h
            have hg := glue_pair hc
            have hl : l ≠ [] := by rw [hg]; simp
            have hma : ∀ x ∈ a, x.size ≤ m := fun x hx => hm x (by rw [hg]; exact List.mem_append_left _ hx)
            have hmd : ∀ x ∈ (headD d).2, x.size ≤ m := fun x hx => hm x (by
              rw [hg]
              refine List.mem_append_right _ (List.mem_cons_of_mem _ ?_)
              rcases headD_T d h0 with ⟨_, e⟩ | ⟨_, e⟩
              · rw [e] at hx; exact hx
              · rw [e]; exact List.mem_cons_of_mem _ hx)
            obtain ⟨i1, i2⟩ := atoms_T _ (Nat.le_refl _) hr hma
            obtain ⟨j1, j2⟩ := atoms_T _ (Nat.le_refl _) hs hmd
            have h5 : tl (partW (r, s, (headD d).1)) = tl l := by
              rcases headD_T d h0 with ⟨e1, e2⟩ | ⟨e1, e2⟩
              · rw [e2] at hs j1
                have hs0 : s ≠ [] := fun e0 => by
                  have := atomsL_pos hs h0
                  rw [e0] at this
                  exact absurd this (by decide)
                have e3 : partW (r, s, (headD d).1) = showsA r ++ [perB] ++ showsA s := by
                  rw [e1]
                  exact (if_neg (fun k => hs0 k.1)).trans (if_pos rfl)
                rw [e3, tl_app, tl_app, i1, j1, hg, tl_app]
                rw [show perB :: d = [perB] ++ d from rfl, tl_app, List.append_assoc]
              · have e3 : partW (r, s, (headD d).1) = showsA r ++ [perB] ++ [(headD d).1] ++ showsA s :=
                  (if_neg (fun k => e1 k.2)).trans (if_neg e1)
                rw [e3, tl_app, tl_app, tl_app, i1, j1, hg, tl_app]
                rw [show perB :: d = [perB] ++ ([(headD d).1] ++ (headD d).2) from by rw [show [(headD d).1] ++ (headD d).2 = d from e2.symm]; rfl, tl_app, tl_app]
                simp only [List.append_assoc]
            exact ⟨h5, i2, j2, hl, key h5 hl⟩
          · rw [if_neg h1] at h; cases h
theorem partS_T {names ps l : List ByteArray} {p : PL} {m : Nat} (h : partD names ps l = some p) (hm : ∀ x ∈ l, x.size ≤ m) : 45 :: (partS p).data.toList = tl l := by
  obtain ⟨h1, _, _, _, h5⟩ := part_T h hm
  rw [← h1, tl_glue h5]; rfl
theorem parts_T {names ps : List ByteArray} {m : Nat} : ∀ {css : List (List ByteArray)} {r : List PL}, css ≠ [] → partsL names ps css = some r → (∀ l ∈ css, ∀ x ∈ l, x.size ≤ m) →
    45 :: Lib.join ((r.map partS).map (·.data.toList)) sepB.data.toList = tl (glue andB css)
  | [], _, h, _, _ => absurd rfl h
  | [l], r, _, h, hm => by
    unfold partsL at h
    cases hp : partD names ps l with
    | none => rw [hp] at h; cases h
    | some p =>
      rw [hp] at h
      injection h with h
      subst h
      show 45 :: Lib.join [(partS p).data.toList] _ = tl l
      rw [Lib.join_one]
      exact partS_T hp (hm l (by simp))
  | l :: l2 :: css, r, _, h, hm => by
    unfold partsL at h
    cases hp : partD names ps l with
    | none => rw [hp] at h; cases h
    | some p =>
      rw [hp] at h
      simp only [Option.bind_some] at h
      cases hr : partsL names ps (l2 :: css) with
      | none => rw [hr] at h; cases h
      | some r' =>
        rw [hr] at h
        injection h with h
        have ih := parts_T (by simp) hr (fun l' hl' => hm l' (List.mem_cons_of_mem _ hl'))
        have h1 := partS_T hp (hm l (by simp))
        have hlen := partsL_len hr
        cases r' with
        | nil => simp at hlen
        | cons p2 r2 =>
          rw [← h]
          show 45 :: Lib.join ((partS p).data.toList :: ((p2 :: r2).map partS).map (·.data.toList)) sepB.data.toList = tl (l ++ andB :: glue andB (l2 :: css))
          rw [show andB :: glue andB (l2 :: css) = [andB] ++ glue andB (l2 :: css) from rfl, tl_app, tl_app, ← ih, ← h1, tl_one]
          rw [Lib.join_cons]
          show 45 :: ((partS p).data.toList ++ Lib.joinTail _ ((partS p2).data.toList :: (r2.map partS).map (·.data.toList))) = _
          rw [show ((p2 :: r2).map partS).map (·.data.toList) = (partS p2).data.toList :: (r2.map partS).map (·.data.toList) from rfl, Lib.join_cons]
          unfold Lib.joinTail
          rw [List.map_cons, List.flatten_cons]
          show _ = 45 :: (partS p).data.toList ++ (45 :: andB.data.toList ++ (45 :: ((partS p2).data.toList ++ _)))
          rw [show sepB.data.toList = 45 :: andB.data.toList ++ [45] from by decide +kernel]
          simp
/-- A unit that is read is shown as it was. -/
theorem unit_back {names ps : List ByteArray} {s : ByteArray} {r : List PL} (h : unitD names ps s = .ok r) : unitS r = s := by
  obtain ⟨h1, h2, h3, h4⟩ := unitD_ok h
  have hm : ∀ l ∈ cutBy andB (pcs s), ∀ x ∈ l, x.size ≤ 20 := fun l hl x hx => goodAll_size h2 x (cutBy_mem _ l hl x hx)
  have hne : pcs s ≠ [] := fun e => by have := pcs_len s; rw [e] at this; simp at this
  have h5 := parts_T (cutBy_ne _) h3 hm
  rw [glue_cutBy, tl_glue hne, pcs_parts] at h5
  have h6 : glue 45 (parts s.data.toList) = s.data.toList := glue_cutBy _
  rw [h6, ← unitS_join] at h5
  injection h5 with _ h5
  exact ByteArray.ext (Array.ext' h5)
theorem map_back {r : List PL} (h : ∀ p ∈ r, okP p) : (r.map ofP).map toP = r := by
  rw [List.map_map]
  conv => rhs; rw [← List.map_id r]
  exact List.map_congr_left fun p hp => toP_ofP (h p hp)
theorem sameA_self (l : List AL) : sameA l l = true := decide_eq_true rfl
theorem sameQ_self (p : PL) : sameQ (ofP p) (ofP p) = true := by
  unfold sameQ
  rw [sameA_self, sameA_self, decide_eq_true rfl]
  show (goodB (digs W32 _) && _) = true
  rw [goodB_digs]; rfl
theorem sameQs_self : ∀ r : List PL, sameQs (r.map ofP) (r.map ofP) = true
  | [] => rfl
  | p :: r => by
    show (sameQ (ofP p) (ofP p) && sameQs (r.map ofP) (r.map ofP)) = true
    rw [sameQ_self, sameQs_self r]; rfl
theorem great_of {names ps l : List ByteArray} {p : PL} (h : partD names ps l = some p) (hm : ∀ x ∈ l, x.size ≤ 20) : greatQ (ofP p) = false := by
  obtain ⟨_, h2, h3, _, _⟩ := part_T h hm
  have h4 : okP p ∧ p.1.length + p.2.1.length ≤ 8 := partC_ok h
  have h5 : (digs W32 (nuOf p.2.2)).length ≤ 3 := numW_dl h4.1
  have a1 : ∀ {l : List AL}, SmallL l 20 → l.any longA = false := fun {l} hs => by
    rw [List.any_eq_false]
    intro a ha
    unfold longA
    have := hs a ha
    simp; omega
  unfold greatQ
  show (decide (3 < (digs W32 (nuOf p.2.2)).length) || (decide (8 < p.1.length + p.2.1.length) || (p.1.any longA || p.2.1.any longA))) = false
  rw [a1 h2, a1 h3, decide_eq_false (by omega), decide_eq_false (by omega)]; rfl
theorem greats_of {names ps : List ByteArray} : ∀ {css : List (List ByteArray)} {r : List PL}, partsL names ps css = some r → (∀ l ∈ css, ∀ x ∈ l, x.size ≤ 20) → (r.map ofP).any greatQ = false
  | [], r, h, _ => by injection h with h; subst h; rfl
  | l :: css, r, h, hm => by
    unfold partsL at h
    cases hp : partD names ps l with
    | none => rw [hp] at h; cases h
    | some p =>
      cases hr : partsL names ps css with
      | none => rw [hp, hr] at h; cases h
      | some r' =>
        rw [hp, hr] at h
        injection h with h
        rw [← h]
        show (greatQ (ofP p) || (r'.map ofP).any greatQ) = false
        rw [great_of hp (hm l (by simp)), greats_of hr (fun l' hl' => hm l' (List.mem_cons_of_mem _ hl'))]; rfl
/-- A unit that was read may be. -/
theorem goodU_back {names ps : List ByteArray} {s : ByteArray} {r : List PL} (h : unitD names ps s = .ok r) : goodU names ps (r.map ofP) = true := by
  obtain ⟨h1, h2, h3, h4⟩ := unitD_ok h
  have hm : ∀ l ∈ cutBy andB (pcs s), ∀ x ∈ l, x.size ≤ 20 := fun l hl x hx => goodAll_size h2 x (cutBy_mem _ l hl x hx)
  unfold goodU
  rw [List.length_map, decide_eq_true h4, greats_of h3 hm, map_back (fun p hp => (partsL_ok h3 p hp).1), unit_back h, h]
  exact sameQs_self r
end Go.Proofs.YthdpojkeceoiiaaGreatDoor
end

section
/- Parted from Jx: by function. -/
open Go.RowKit
set_option maxRecDepth 100000
namespace Go.Proofs.YthdpojkeceoiiaaGreatDoor
section
def goodsB (qs : List QL) : Bool := qs.all fun q => goodB q.2.2
theorem sameQs_iff : ∀ {qs : List QL} {r : List PL}, (∀ q ∈ qs, Good32 q.2.2) → (∀ p ∈ r, okP p) → (sameQs qs (r.map ofP) = true ↔ (r = qs.map toP ∧ goodsB qs = true))
  | [], [], _, _ => by simp [sameQs, goodsB]
  | [], p :: r, _, _ => by simp [sameQs]
  | q :: qs, [], _, _ => by simp [sameQs]
  | q :: qs, p :: r, hw, hp => by
    have ih := sameQs_iff (qs := qs) (r := r) (fun q' hq => hw q' (List.mem_cons_of_mem _ hq)) (fun p' hp' => hp p' (List.mem_cons_of_mem _ hp'))
    have h1 : sameQ q (ofP p) = true ↔ (p = toP q ∧ goodB q.2.2 = true) := by
      have hpk := hp p (by simp)
      unfold sameQ sameA
      simp only [Bool.and_eq_true, decide_eq_true_eq]
      obtain ⟨l1, l2, ws⟩ := q
      obtain ⟨p1, p2, t⟩ := p
      have e1 : val W32 (ofP (p1, p2, t)).2.2 = nuOf t := val_digs (by decide) _
      rw [e1]
      show goodB ws = true ∧ val W32 ws = nuOf t ∧ l1 = p1 ∧ l2 = p2 ↔ (p1, p2, t) = (l1, l2, nuT (val W32 ws)) ∧ goodB ws = true
      constructor
      · rintro ⟨h1, h2, h3, h4⟩
        rw [h2, h3, h4]
        have : nuT (nuOf t) = t := numW_back hpk
        rw [this]
        exact ⟨rfl, h1⟩
      · rintro ⟨h1, h2⟩
        injection h1 with h3 h4
        injection h4 with h4 h5
        refine ⟨h2, ?_, h3.symm, h4.symm⟩
        rw [h5]
        exact (numL_decL _).1.symm
    show (sameQ q (ofP p) && sameQs qs (r.map ofP)) = true ↔ p :: r = toP q :: qs.map toP ∧ (goodB q.2.2 && goodsB qs) = true
    rw [Bool.and_eq_true, Bool.and_eq_true, h1, ih, List.cons.injEq]
    constructor
    · rintro ⟨⟨a, b⟩, c, d⟩; exact ⟨⟨a, c⟩, b, d⟩
    · rintro ⟨⟨a, c⟩, b, d⟩; exact ⟨⟨a, b⟩, c, d⟩
end
end Go.Proofs.YthdpojkeceoiiaaGreatDoor
end

section
/- What a unit that may be holds; two lists of the same atoms are put together alike. No conditions. -/
open Go.RowKit
set_option maxRecDepth 100000
namespace Go.Proofs.YthdpojkeceoiiaaGreatDoor
def PowB (l : List AL) : Prop := ∀ a ∈ l, 0 ≤ a.2.2 ∧ a.2.2 ≤ 15
theorem parseA_k (names ps l : List ByteArray) : (parseA names ps l).k ≤ 15 := by
  unfold parseA
  split
  · exact Nat.zero_le _
  · unfold parseU
    split
    · show (leadP l).1 ≤ 15
      rcases leadP_form l with h | ⟨_, _, _, h, _, h1, _⟩
      · rw [h]; decide
      · rw [h]; show powOf _ ≤ 15; omega
    · exact Nat.zero_le _
theorem atomsF_pow {names ps : List ByteArray} : ∀ (f : Nat) {l : List ByteArray} {r : List AL}, atomsF names ps f l = some r → PowB r
  | f, [], r, h => by
    cases f <;> (injection h with h; subst h; intro a ha; cases ha)
  | 0, u :: l, r, h => by cases h
  | f + 1, u :: l, r, h => by
    unfold atomsF at h
    split at h
    · cases hh : atomsF names ps f ((u :: l).drop (parseA names ps (u :: l)).t) with
      | none => rw [hh] at h; cases h
      | some r' =>
        rw [hh] at h
        injection h with h
        subst h
        intro a ha
        rcases List.mem_cons.1 ha with rfl | ha
        · have := parseA_k names ps (u :: l)
          show (0 : Int) ≤ ((parseA names ps (u :: l)).k : Int) ∧ ((parseA names ps (u :: l)).k : Int) ≤ 15
          omega
        · exact atomsF_pow f hh a ha
    · cases h
theorem atomsL_pow {names ps l : List ByteArray} {r : List AL} (h : atomsL names ps l = some r) : PowB r := atomsF_pow _ h
theorem partC_pow {names ps : List ByteArray} {css : List (List ByteArray)} {p : PL} (h : partC names ps css = some p) : PowB p.1 ∧ PowB p.2.1 := by
  match css, h with
  | [], h => cases h
  | _ :: _ :: _ :: _, h => cases h
  | [a], h =>
    rw [partC_sole] at h
    cases hr : atomsL names ps a with
    | none => rw [hr] at h; cases h
    | some r =>
      rw [hr] at h
      simp only [Option.bind_some] at h
      by_cases h1 : 0 < r.length ∧ r.length ≤ 8
      · rw [if_pos h1] at h
        injection h with h
        subst h
        exact ⟨atomsL_pow hr, fun a ha => by cases ha⟩
      · rw [if_neg h1] at h; cases h
  | [a, d], h =>
    rw [partC_two] at h
    by_cases h0 : d = []
    · rw [if_pos h0] at h; cases h
    · rw [if_neg h0] at h
      cases hr : atomsL names ps a with
      | none => rw [hr] at h; cases h
      | some r =>
        cases hs : atomsL names ps (headD d).2 with
        | none => rw [hr, hs] at h; cases h
        | some s =>
          rw [hr, hs] at h
          simp only [Option.bind_some] at h
          by_cases h1 : r.length + s.length ≤ 8
          · rw [if_pos h1] at h
            injection h with h
            subst h
            exact ⟨atomsL_pow hr, atomsL_pow hs⟩
          · rw [if_neg h1] at h; cases h
theorem partsL_pow {names ps : List ByteArray} : ∀ {css : List (List ByteArray)} {r : List PL}, partsL names ps css = some r → ∀ p ∈ r, PowB p.1 ∧ PowB p.2.1
  | [], r, h => by injection h with h; subst h; intro p hp; cases hp
  | b :: css, r, h => by
    unfold partsL at h
    cases hb : partD names ps b with
    | none => rw [hb] at h; cases h
    | some q =>
      cases ht : partsL names ps css with
      | none => rw [hb, ht] at h; cases h
      | some r' =>
        rw [hb, ht] at h
        injection h with h
        rw [← h]
        intro p hp
        rcases List.mem_cons.1 hp with rfl | hp
        · exact partC_pow hb
        · exact partsL_pow ht p hp
/-- The atoms of a unit that may be have small powers, and it is not too great. -/
theorem good_pow {names ps : List ByteArray} {qs : List QL} (hw : ∀ q ∈ qs, Good32 q.2.2) (h : goodU names ps qs = true) : qs.any greatQ = false ∧ ∀ q ∈ qs, PowB q.1 ∧ PowB q.2.1 := by
  unfold goodU at h
  simp only [Bool.and_eq_true, decide_eq_true_eq, Bool.not_eq_true'] at h
  obtain ⟨_, h2, h3⟩ := h
  refine ⟨h2, ?_⟩
  cases hd : unitD names ps (unitS (qs.map toP)) with
  | error v => rw [hd] at h3; cases h3
  | ok r =>
    rw [hd] at h3
    obtain ⟨_, _, k3, _⟩ := unitD_ok hd
    have hok := partsL_ok k3
    obtain ⟨e, _⟩ := (sameQs_iff hw (fun p hp => (hok p hp).1)).1 h3
    intro q hq
    exact partsL_pow k3 (toP q) (by rw [e]; exact List.mem_map.2 ⟨q, hq, rfl⟩)
theorem PowB.pows {l : List AL} (h : PowB l) : PowsQ l := fun a ha => by have := h a ha; omega
theorem combL_perm {l m : List AL} (h : l.Perm m) : combL l = combL m := by unfold combL; rw [sortQ_unique h]
/-- All that is put together has a prefix and a name of the list's. -/
theorem foldQ_mem : ∀ {s acc r : List AL}, foldQ acc s = some r → r.length ≤ acc.length + s.length ∧ ∀ a ∈ r, (∃ b ∈ acc, b.1 = a.1 ∧ b.2.1 = a.2.1) ∨ ∃ b ∈ s, b.1 = a.1 ∧ b.2.1 = a.2.1
  | [], acc, r, h => by
    injection h with h; subst h
    exact ⟨by simp, fun a ha => .inl ⟨a, ha, rfl, rfl⟩⟩
  | x :: s, acc, r, h => by
    rw [foldQ] at h
    cases hx : addQ acc x with
    | none => rw [hx] at h; cases h
    | some acc' =>
      rw [hx] at h
      obtain ⟨h1, h2⟩ := foldQ_mem h
      have key : acc'.length ≤ acc.length + 1 ∧ ∀ a ∈ acc', (∃ b ∈ acc, b.1 = a.1 ∧ b.2.1 = a.2.1) ∨ (x.1 = a.1 ∧ x.2.1 = a.2.1) := by
        rcases list_last acc with ha | ⟨acc0, q, ha⟩
        · subst ha
          rw [addQ_nil] at hx
          injection hx with hx
          subst hx
          exact ⟨by simp, fun a ha => .inr (by simp at ha; subst ha; exact ⟨rfl, rfl⟩)⟩
        · subst ha
          by_cases he : q.1 = x.1 ∧ q.2.1 = x.2.1
          · by_cases hp : 15 < q.2.2 + x.2.2
            · rw [addQ_long he hp] at hx; cases hx
            · rw [addQ_sum he hp] at hx
              injection hx with hx
              subst hx
              refine ⟨by simp, fun a ha => ?_⟩
              rcases List.mem_append.1 ha with ha | ha
              · exact .inl ⟨a, by simp [ha], rfl, rfl⟩
              · obtain rfl := List.mem_singleton.1 ha
                exact .inr ⟨he.1.symm, he.2.symm⟩
          · rw [addQ_ne he] at hx
            injection hx with hx
            subst hx
            refine ⟨by simp, fun a ha => ?_⟩
            rcases List.mem_append.1 ha with ha | ha
            · exact .inl ⟨a, ha, rfl, rfl⟩
            · obtain rfl := List.mem_singleton.1 ha
              exact .inr ⟨rfl, rfl⟩
      refine ⟨by simp only [List.length_cons]; omega, fun a ha => ?_⟩
      rcases h2 a ha with ⟨b, hb, e1, e2⟩ | ⟨b, hb, e1, e2⟩
      · rcases key.2 b hb with ⟨b', hb', e3, e4⟩ | ⟨e3, e4⟩
        · exact .inl ⟨b', hb', e3.trans e1, e4.trans e2⟩
        · exact .inr ⟨x, by simp, e3.trans e1, e4.trans e2⟩
      · exact .inr ⟨b, by simp [hb], e1, e2⟩
theorem combL_mem {l r : List AL} (h : combL l = some r) : r.length ≤ l.length ∧ ∀ a ∈ r, ∃ b ∈ l, b.1 = a.1 ∧ b.2.1 = a.2.1 := by
  obtain ⟨h1, h2⟩ := foldQ_mem h
  rw [sortQ_len] at h1
  refine ⟨by simpa using h1, fun a ha => ?_⟩
  rcases h2 a ha with ⟨b, hb, _⟩ | ⟨b, hb, e⟩
  · cases hb
  · exact ⟨b, ((sortQ_facts l).1.mem_iff).1 hb, e⟩
theorem longA_of {a b : AL} (h1 : b.1 = a.1) (h2 : b.2.1 = a.2.1) : longA a = longA b := by unfold longA; rw [h1, h2]
theorem any_long {l r : List AL} (h : combL l = some r) (hl : l.any longA = false) : r.any longA = false := by
  rw [Bool.eq_false_iff]
  intro h9
  obtain ⟨a, ha, ha2⟩ := List.any_eq_true.1 h9
  obtain ⟨b, hb, e1, e2⟩ := (combL_mem h).2 a ha
  rw [longA_of e1 e2] at ha2
  exact List.any_eq_false.1 hl b hb ha2
theorem norm_great {q r : QL} (h : normQ q = some r) (hg : greatQ q = false) (hw : Good32 q.2.2) : greatQ r = false ∧ Good32 r.2.2 := by
  obtain ⟨l1, l2, ws⟩ := q
  unfold normQ at h
  cases ha : combL l1 with
  | none => simp only [ha] at h; cases h
  | some a =>
    cases hb : combL l2 with
    | none => simp only [ha, hb] at h; cases h
    | some b =>
      simp only [ha, hb] at h
      injection h with h
      subst h
      unfold greatQ at hg ⊢
      simp only [Bool.or_eq_false_iff, decide_eq_false_iff_not] at hg ⊢
      obtain ⟨g1, g2, g3, g4⟩ := hg
      have m1 := (combL_mem ha).1
      have m2 := (combL_mem hb).1
      refine ⟨⟨?_, by omega, any_long ha g3, any_long hb g4⟩, digs_good _⟩
      have hv : val W32 ws < W32 ^ 3 := Nat.lt_of_lt_of_le (val_lt _ hw) (Nat.pow_le_pow_right (by decide) (by omega))
      have := dl_le (k := 3) hv
      show ¬ 3 < dl (val W32 ws)
      omega
theorem normQs_great : ∀ {qs rs : List QL}, normQs qs = some rs → qs.any greatQ = false → (∀ q ∈ qs, Good32 q.2.2) → rs.length = qs.length ∧ rs.any greatQ = false ∧ ∀ r ∈ rs, Good32 r.2.2
  | [], rs, h, _, _ => by injection h with h; subst h; exact ⟨rfl, rfl, fun r hr => by cases hr⟩
  | q :: qs, rs, h, hg, hw => by
    unfold normQs at h
    cases hq : normQ q with
    | none => rw [hq] at h; cases h
    | some r =>
      cases ht : normQs qs with
      | none => rw [hq, ht] at h; cases h
      | some rs' =>
        rw [hq, ht] at h
        injection h with h
        subst h
        rw [List.any_cons, Bool.or_eq_false_iff] at hg
        obtain ⟨e1, e2, e3⟩ := normQs_great ht hg.2 (fun q hq => hw q (List.mem_cons_of_mem _ hq))
        obtain ⟨f1, f2⟩ := norm_great hq hg.1 (hw q (by simp))
        refine ⟨by simp [e1], by rw [List.any_cons, f1, e2]; rfl, fun r' hr => ?_⟩
        rcases List.mem_cons.1 hr with rfl | hr
        · exact f2
        · exact e3 r' hr
theorem fitA_swap {l : List AL} {i k : Nat} (hi : i < l.length) (hk : k < l.length) : ((l.set i l[k]).set k l[i]).Perm l := List.set_set_perm hi hk
end Go.Proofs.YthdpojkeceoiiaaGreatDoor
end

section
/- What the texts of the law UnitKnown come to. No conditions. -/
open Go.RowKit
set_option maxRecDepth 100000
namespace Go.Proofs.YthdpojkeceoiiaaGreatDoor
def badU : List ByteArray := [⟨#[]⟩, ⟨#[112, 101, 114]⟩, ⟨#[109, 101, 116, 101, 114, 45, 112, 101, 114]⟩, ⟨#[112, 101, 114, 45, 49]⟩, ⟨#[109, 101, 116, 101, 114, 45, 112, 101, 114, 45, 49]⟩, ⟨#[109, 101, 116, 101, 114, 45, 112, 101, 114, 45, 49, 45, 115, 101, 99, 111, 110, 100]⟩, ⟨#[109, 101, 116, 101, 114, 45, 112, 101, 114, 45, 115, 101, 99, 111, 110, 100, 45, 112, 101, 114, 45, 103, 114, 97, 109]⟩, ⟨#[109, 101, 116, 101, 114, 45, 97, 110, 100]⟩, ⟨#[97, 110, 100, 45, 109, 101, 116, 101, 114]⟩, ⟨#[109, 101, 116, 101, 114, 45, 97, 110, 100, 45, 109, 101, 116, 101, 114, 45, 97, 110, 100, 45, 109, 101, 116, 101, 114, 45, 97, 110, 100, 45, 109, 101, 116, 101, 114, 45, 97, 110, 100, 45, 109, 101, 116, 101, 114]⟩, ⟨#[49, 48, 48, 45, 109, 101, 116, 101, 114]⟩, ⟨#[109, 101, 116, 101, 114, 45, 112, 101, 114, 45, 115, 101, 99, 111, 110, 100, 45, 49, 48, 48]⟩, ⟨#[109, 101, 116, 101, 114, 45, 112, 101, 114, 45, 48]⟩, ⟨#[102, 111, 111, 116]⟩, ⟨#[109, 101, 116, 101, 114, 45, 115, 101, 99, 111, 110, 100, 45, 112, 101, 114, 45, 109, 101, 116, 101, 114, 45, 103, 114, 97, 109, 45, 103, 114, 97, 109, 45, 103, 114, 97, 109, 45, 103, 114, 97, 109, 45, 103, 114, 97, 109, 45, 103, 114, 97, 109]⟩]
def kxA : ByteArray := ⟨#[112, 101, 114, 45, 49, 48, 48, 45, 107, 105, 108, 111, 109, 101, 116, 101, 114]⟩
def kxB : ByteArray := ⟨#[115, 101, 99, 111, 110, 100, 45, 115, 113, 117, 97, 114, 101, 45, 109, 101, 116, 101, 114, 45, 115, 101, 99, 111, 110, 100, 45, 112, 101, 114, 45, 103, 114, 97, 109, 45, 109, 101, 116, 101, 114, 45, 103, 114, 97, 109]⟩
def kxC : ByteArray := ⟨#[115, 113, 117, 97, 114, 101, 45, 109, 101, 116, 101, 114, 45, 115, 113, 117, 97, 114, 101, 45, 115, 101, 99, 111, 110, 100, 45, 112, 101, 114, 45, 115, 113, 117, 97, 114, 101, 45, 103, 114, 97, 109, 45, 109, 101, 116, 101, 114]⟩
def kxD : ByteArray := ⟨#[112, 111, 119, 49, 48, 45, 109, 101, 116, 101, 114, 45, 112, 111, 119, 49, 48, 45, 109, 101, 116, 101, 114]⟩
def kxJ : ByteArray := ⟨#[112, 101, 114, 45, 54, 48]⟩
def kxM : ByteArray := ⟨#[109, 101, 116, 101, 114, 45, 97, 110, 100, 45, 109, 105, 108, 108, 105, 109, 101, 116, 101, 114]⟩
def kxL : ByteArray := ⟨#[109, 105, 108, 108, 105, 109, 101, 116, 101, 114]⟩
def kx100 : ByteArray := ⟨#[49, 48, 48]⟩
def prA : List PL := [([], [(⟨#[107, 105, 108, 111]⟩, ⟨#[109, 101, 116, 101, 114]⟩, 1)], ⟨#[49, 48, 48]⟩)]
def prB : List PL := [([(⟨#[]⟩, ⟨#[115, 101, 99, 111, 110, 100]⟩, 1), (⟨#[]⟩, ⟨#[109, 101, 116, 101, 114]⟩, 2), (⟨#[]⟩, ⟨#[115, 101, 99, 111, 110, 100]⟩, 1)], [(⟨#[]⟩, ⟨#[103, 114, 97, 109]⟩, 1), (⟨#[]⟩, ⟨#[109, 101, 116, 101, 114]⟩, 1), (⟨#[]⟩, ⟨#[103, 114, 97, 109]⟩, 1)], ⟨#[49]⟩)]
def prC : List PL := [([(⟨#[]⟩, ⟨#[109, 101, 116, 101, 114]⟩, 2), (⟨#[]⟩, ⟨#[115, 101, 99, 111, 110, 100]⟩, 2)], [(⟨#[]⟩, ⟨#[103, 114, 97, 109]⟩, 2), (⟨#[]⟩, ⟨#[109, 101, 116, 101, 114]⟩, 1)], ⟨#[49]⟩)]
def prD : List PL := [([(⟨#[]⟩, ⟨#[109, 101, 116, 101, 114]⟩, 10), (⟨#[]⟩, ⟨#[109, 101, 116, 101, 114]⟩, 10)], [], ⟨#[49]⟩)]
def prJ : List PL := [([], [], ⟨#[54, 48]⟩)]
def prM : List PL := [([(⟨#[]⟩, ⟨#[109, 101, 116, 101, 114]⟩, 1)], [], ⟨#[49]⟩), ([(⟨#[109, 105, 108, 108, 105]⟩, ⟨#[109, 101, 116, 101, 114]⟩, 1)], [], ⟨#[49]⟩)]
/-- The same error, or the same parts? -/
def okU (r : Except Int (List PL)) (ps : List PL) : Bool := match r with
  | .error _ => false
  | .ok q => decide (q = ps)
def erU (r : Except Int (List PL)) (v : Int) : Bool := match r with
  | .error x => decide (x = v)
  | .ok _ => false
theorem okU_eq {r : Except Int (List PL)} {ps : List PL} (h : okU r ps = true) : r = .ok ps := by
  cases r with
  | error v => cases h
  | ok q => exact congrArg _ (of_decide_eq_true h)
theorem erU_eq {r : Except Int (List PL)} {v : Int} (h : erU r v = true) : r = .error v := by
  cases r with
  | error x => exact congrArg _ (of_decide_eq_true h)
  | ok q => cases h
theorem badU_all : badU.all (fun s => erU (unitD uN uP s) 2) = true := by decide +kernel
theorem badU_D {k : Nat} {s : ByteArray} (h : badU[k]? = some s) : unitD uN uP s = .error 2 := erU_eq (List.all_eq_true.1 badU_all s (List.mem_of_getElem? h))
theorem kxA_D : unitD uN uP kxA = .ok prA := okU_eq (by decide +kernel)
theorem kxB_D : unitD uN uP kxB = .ok prB := okU_eq (by decide +kernel)
theorem kxD_D : unitD uN uP kxD = .ok prD := okU_eq (by decide +kernel)
theorem kxJ_D : unitD uN uP kxJ = .ok prJ := okU_eq (by decide +kernel)
theorem kxM_D : unitD uN uP kxM = .ok prM := okU_eq (by decide +kernel)
theorem prC_S : unitS prC = kxC := by decide +kernel
theorem prM_S : partS (([], [], oneB) : PL) = partS ([], [], oneB) := rfl
def okQ (r : Option (List QL)) (ps : List QL) : Bool := match r with
  | none => false
  | some q => decide (q = ps)
theorem okQ_eq {r : Option (List QL)} {ps : List QL} (h : okQ r ps = true) : r = some ps := by
  cases r with
  | none => cases h
  | some q => exact congrArg _ (of_decide_eq_true h)
theorem normB : normQs (prB.map ofP) = some (prC.map ofP) := okQ_eq (by decide +kernel)
theorem normD : normQs (prD.map ofP) = none := Option.isNone_iff_eq_none.1 (by decide +kernel)
theorem goodNo : goodU uN uP [] = false := by decide +kernel
end Go.Proofs.YthdpojkeceoiiaaGreatDoor
end
