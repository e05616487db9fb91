/- Each theorem here says its own conditions. -/
import Derived.Test.YtfflmmbhpchloaaGreatDoorGTkwc44
set_option maxRecDepth 100000
set_option maxHeartbeats 16000000
section
open Go.RowKit
namespace Go.Proofs.YtfflmmbhpchloaaGreatDoor
def tl (xs : List ByteArray) : List UInt8 := xs.flatMap fun x => 45 :: x.data.toList
theorem tl_app (xs ys : List ByteArray) : tl (xs ++ ys) = tl xs ++ tl ys := List.flatMap_append
theorem tl_cons (x : ByteArray) (xs : List ByteArray) : tl (x :: xs) = 45 :: (x.data.toList ++ tl xs) := rfl
theorem tl_one (x : ByteArray) : tl [x] = 45 :: x.data.toList := by simp [tl]
theorem tl_two (s u : ByteArray) : tl [s ++ ⟨#[45]⟩ ++ u] = tl [s, u] := by
 rw [tl_one, tl_cons, tl_one, app_data, app_data]
 simp
theorem parse_words {names ps l : List ByteArray} (h : (parseA names ps l).ok = true) :
 (∃ u r, l = u :: r ∧ (parseA names ps l).t = 1 ∧ showB (parseA names ps l).p (parseA names ps l).n ((parseA names ps l).k : Int) = u ∧ (parseA names ps l).p.size + (parseA names ps l).n.size = u.size) ∨
 (∃ s u r, l = s :: u :: r ∧ (parseA names ps l).t = 2 ∧ showB (parseA names ps l).p (parseA names ps l).n ((parseA names ps l).k : Int) = s ++ ⟨#[45]⟩ ++ u ∧ (parseA names ps l).p.size + (parseA names ps l).n.size = u.size) := by
 cases hu : l[(leadP l).2]? with
 | none => unfold parseA at h; rw [hu] at h; cases h
 | some u =>
   have e : parseA names ps l = parseU names ps (leadP l).1 (leadP l).2 u := by unfold parseA; rw [hu]
   rw [e] at h ⊢
   have hs : (sizeP names ps u).2 = true := by
    unfold parseU at h
    split at h
    ·assumption
    ·cases h
   have e2 : parseU names ps (leadP l).1 (leadP l).2 u = ⟨u.extract 0 (sizeP names ps u).1, restB u (sizeP names ps u).1, (leadP l).1, (leadP l).2 + 1, true⟩ := by unfold parseU; rw [if_pos hs]
   rw [e2]
   have hle := sizeP_le names ps u
   have hj := cut_join u _ hle
   have hz : (u.extract 0 (sizeP names ps u).1).size + (restB u (sizeP names ps u).1).size = u.size := by rw [← ByteArray.size_append, hj]
   rcases leadP_form l with hl | ⟨s, r, hl1, hl2, h1, h2, h3⟩
   ·rw [hl] at hu ⊢
    left
    cases l with
    | nil => simp at hu
    | cons u' r =>
      simp at hu
      subst hu
      refine ⟨u', r, rfl, rfl, ?_, hz⟩
      show showB (u'.extract 0 _) (restB u' _) 1 = u'
      unfold showB
      rw [if_neg (by omega), if_pos rfl, hj]
   ·rw [hl2] at hu ⊢
    right
    subst hl1
    cases r with
    | nil => simp at hu
    | cons u' r =>
      simp at hu
      subst hu
      refine ⟨s, u', r, rfl, rfl, ?_, hz⟩
      show showB (u'.extract 0 _) (restB u' _) ((powOf s : Nat) : Int) = _
      unfold showB
      rw [if_neg (by omega), if_neg (by omega), hj, Int.toNat_natCast, ← h3, join_two]
theorem atoms_T {names ps : List ByteArray} : ∀ (k : Nat) {l : List ByteArray} {r : List AL} {m : Nat}, l.length ≤ k → atomsL names ps l = some r → (∀ x ∈ l, x.size ≤ m) → tl (showsA r) = tl l ∧ SmallL r m
 | _, [], r, m, _, h, _ => by injection h with h; subst h; exact ⟨rfl, fun a ha => by cases ha⟩
 | 0, u :: l, r, m, hk, h, _ => by simp at hk
 | k + 1, u0 :: l, r, m, hk, h, hm => by
   by_cases e : (parseA names ps (u0 :: l)).ok = true
   ·rw [atomsL_more e] at h
    have hw := parse_words e
    obtain ⟨pa, hpa⟩ : ∃ x, parseA names ps (u0 :: l) = x := ⟨_, rfl⟩
    rw [hpa] at h hw
    cases hh : atomsL names ps ((u0 :: l).drop pa.t) with
    | none => rw [hh] at h; cases h
    | some r' =>
      rw [hh] at h
      injection h with h
      have hx : ∀ {xs ys : List ByteArray}, xs.length = pa.t → u0 :: l = xs ++ ys → 0 < pa.t → tl [showB pa.p pa.n (pa.k : Int)] = tl xs → pa.p.size + pa.n.size ≤ m → tl (showsA r) = tl (u0 :: l) ∧ SmallL r m := fun {xs ys} hl hxy h0 ht hs => by
       have hd : (u0 :: l).drop pa.t = ys := by rw [hxy, ← hl, List.drop_left]
       rw [hd] at hh
       have hy : ys.length ≤ k := by
        have := congrArg List.length hxy
        rw [List.length_append, List.length_cons] at this
        simp at hk; omega
       obtain ⟨i1, i2⟩ := atoms_T k hy hh (fun x hx => hm x (by rw [hxy]; exact List.mem_append_right _ hx))
       rw [← h, hxy, tl_app]
       refine ⟨?_, fun a ha => ?_⟩
       ·show tl (showB pa.p pa.n (pa.k : Int) :: showsA r') = _
        rw [← i1, ← ht, ← tl_app]; rfl
       ·rcases List.mem_cons.1 ha with rfl | ha
        ·exact hs
        ·exact i2 a ha
      rcases hw with ⟨u, r0, e1, e2, e3, e4⟩ | ⟨s, u, r0, e1, e2, e3, e4⟩
      ·refine hx (xs := [u]) (ys := r0) (by rw [e2]; rfl) (by rw [e1]; rfl) (by omega) (by rw [e3]) ?_
       rw [e4]; exact hm u (by rw [e1]; simp)
      ·refine hx (xs := [s, u]) (ys := r0) (by rw [e2]; rfl) (by rw [e1]; rfl) (by omega) (by rw [e3, tl_two]) ?_
       rw [e4]; exact hm u (by rw [e1]; simp)
   ·rw [atomsL_bad (by simp) (by simpa using e)] at h; cases h
theorem glue_sole {l a : List ByteArray} (h : cutBy perB l = [a]) : l = a := by
 have := glue_cutBy (a := perB) l
 rw [h] at this
 exact this.symm
theorem glue_pair {l a d : List ByteArray} (h : cutBy perB l = [a, d]) : l = a ++ perB :: d := by
 have := glue_cutBy (a := perB) l
 rw [h] at this
 exact this.symm
theorem headD_T (d : List ByteArray) (h : d ≠ []) : ((headD d).1 = oneB ∧ (headD d).2 = d) ∨ ((headD d).1 ≠ oneB ∧ d = (headD d).1 :: (headD d).2) := by
 cases d with
 | nil => exact absurd rfl h
 | cons x d =>
   by_cases e : numW x.data.toList = true ∧ x ≠ oneB
   ·right
    have e2 : headD (x :: d) = (x, d) := if_pos e
    rw [e2]; exact ⟨e.2, rfl⟩
   ·left
    have e2 : headD (x :: d) = (oneB, x :: d) := if_neg e
    rw [e2]; exact ⟨rfl, rfl⟩
theorem part_T {names ps l : List ByteArray} {p : PL} {m : Nat} (h : partD names ps l = some p) (hm : ∀ x ∈ l, x.size ≤ m) : tl (partW p) = tl l ∧ SmallL p.1 m ∧ SmallL p.2.1 m ∧ l ≠ [] ∧ partW p ≠ [] := by
 unfold partD at h
 have key : tl (partW p) = tl l → l ≠ [] → partW p ≠ [] := fun h1 h2 h3 => by
  rw [h3] at h1
  cases l with
  | nil => exact h2 rfl
  | cons x l => rw [tl_cons] at h1; cases h1
 match hc : cutBy perB l with
 | [] => rw [hc] at h; cases h
 | _ :: _ :: _ :: _ => rw [hc] at h; cases h
 | [a] =>
   rw [hc, partC_sole] at h
   cases hr : atomsL names ps a with
   | none => rw [hr] at h; cases h
   | some r =>
     rw [hr] at h
     simp only [Option.bind_some] at h
     by_cases h1 : 0 < r.length ∧ r.length ≤ 8
     ·rw [if_pos h1] at h
      injection h with h
      subst h
      obtain rfl := glue_sole hc
      obtain ⟨i1, i2⟩ := atoms_T _ (Nat.le_refl _) hr hm
      have e : partW (r, [], oneB) = showsA r := if_pos ⟨rfl, rfl⟩
      have hl : l ≠ [] := fun e0 => by
       subst e0
       injection hr with hr
       subst hr
       exact absurd h1.1 (by decide)
      have h5 : tl (partW (r, [], oneB)) = tl l := by rw [e]; exact i1
      exact ⟨h5, i2, (fun a ha => by cases ha), hl, key h5 hl⟩
     ·rw [if_neg h1] at h; cases h
 | [a, d] =>
   rw [hc, partC_two] at h
   by_cases h0 : d = []
   ·rw [if_pos h0] at h; cases h
   ·rw [if_neg h0] at h
    cases hr : atomsL names ps a with
    | none => rw [hr] at h; cases h
    | some r =>
      cases hs : atomsL names ps (headD d).2 with
      | none => rw [hr, hs] at h; cases h
      | some s =>
        rw [hr, hs] at h
        simp only [Option.bind_some] at h
        by_cases h1 : r.length + s.length ≤ 8
        ·rw [if_pos h1] at h
         injection h with h
         subst h
         have hg := glue_pair hc
         have hl : l ≠ [] := by rw [hg]; simp
         have hma : ∀ x ∈ a, x.size ≤ m := fun x hx => hm x (by rw [hg]; exact List.mem_append_left _ hx)
         have hmd : ∀ x ∈ (headD d).2, x.size ≤ m := fun x hx => hm x (by
          rw [hg]
          refine List.mem_append_right _ (List.mem_cons_of_mem _ ?_)
          rcases headD_T d h0 with ⟨_, e⟩ | ⟨_, e⟩
          ·rw [e] at hx; exact hx
          ·rw [e]; exact List.mem_cons_of_mem _ hx)
         obtain ⟨i1, i2⟩ := atoms_T _ (Nat.le_refl _) hr hma
         obtain ⟨j1, j2⟩ := atoms_T _ (Nat.le_refl _) hs hmd
         have h5 : tl (partW (r, s, (headD d).1)) = tl l := by
          rcases headD_T d h0 with ⟨e1, e2⟩ | ⟨e1, e2⟩
          ·rw [e2] at hs j1
           have hs0 : s ≠ [] := fun e0 => by
            have := atomsL_pos hs h0
            rw [e0] at this
            exact absurd this (by decide)
           have e3 : partW (r, s, (headD d).1) = showsA r ++ [perB] ++ showsA s := by
            rw [e1]
            exact (if_neg (fun k => hs0 k.1)).trans (if_pos rfl)
           rw [e3, tl_app, tl_app, i1, j1, hg, tl_app]
           rw [show perB :: d = [perB] ++ d from rfl, tl_app, List.append_assoc]
          ·have e3 : partW (r, s, (headD d).1) = showsA r ++ [perB] ++ [(headD d).1] ++ showsA s :=
            (if_neg (fun k => e1 k.2)).trans (if_neg e1)
           rw [e3, tl_app, tl_app, tl_app, i1, j1, hg, tl_app]
           rw [show perB :: d = [perB] ++ ([(headD d).1] ++ (headD d).2) from by rw [show [(headD d).1] ++ (headD d).2 = d from e2.symm]; rfl, tl_app, tl_app]
           simp only [List.append_assoc]
         exact ⟨h5, i2, j2, hl, key h5 hl⟩
        ·rw [if_neg h1] at h; cases h
theorem map_back {r : List PL} (h : ∀ p ∈ r, okP p) : (r.map ofP).map toP = r := by
 rw [List.map_map]
 conv => rhs; rw [← List.map_id r]
 exact List.map_congr_left fun p hp => toP_ofP (h p hp)
theorem great_of {names ps l : List ByteArray} {p : PL} (h : partD names ps l = some p) (hm : ∀ x ∈ l, x.size ≤ 20) : greatQ (ofP p) = false := by
 obtain ⟨_, h2, h3, _, _⟩ := part_T h hm
 have h4 : okP p ∧ p.1.length + p.2.1.length ≤ 8 := partC_ok h
 have h5 : (digs W32 (nuOf p.2.2)).length ≤ 3 := numW_dl h4.1
 have a1 : ∀ {l : List AL}, SmallL l 20 → l.any longA = false := fun {l} hs => by
  rw [List.any_eq_false]
  intro a ha
  unfold longA
  have := hs a ha
  simp; omega
 unfold greatQ
 show (decide (3 < (digs W32 (nuOf p.2.2)).length) || (decide (8 < p.1.length + p.2.1.length) || (p.1.any longA || p.2.1.any longA))) = false
 rw [a1 h2, a1 h3, decide_eq_false (by omega), decide_eq_false (by omega)]; rfl
theorem greats_of {names ps : List ByteArray} : ∀ {css : List (List ByteArray)} {r : List PL}, partsL names ps css = some r → (∀ l ∈ css, ∀ x ∈ l, x.size ≤ 20) → (r.map ofP).any greatQ = false
 | [], r, h, _ => by injection h with h; subst h; rfl
 | l :: css, r, h, hm => by
   unfold partsL at h
   cases hp : partD names ps l with
   | none => rw [hp] at h; cases h
   | some p =>
     cases hr : partsL names ps css with
     | none => rw [hp, hr] at h; cases h
     | some r' =>
       rw [hp, hr] at h
       injection h with h
       rw [← h]
       show (greatQ (ofP p) || (r'.map ofP).any greatQ) = false
       rw [great_of hp (hm l (by simp)), greats_of hr (fun l' hl' => hm l' (List.mem_cons_of_mem _ hl'))]; rfl
end Go.Proofs.YtfflmmbhpchloaaGreatDoor
end
section
open Go.RowKit
open Go.Proofs.YtfflmmbhpchloaaGreatDoor.V
namespace Go.Proofs.YtfflmmbhpchloaaGreatDoor
theorem unitD_fit {names ps : List ByteArray} {s : ByteArray} {r : List PL} (hD : unitD names ps s = .ok r) : (∀ q ∈ r.map ofP, Good32 q.2.2) ∧ (r.map ofP).any greatQ = false ∧ (r.map ofP).map toP = r ∧ r.length ≤ 4 := by
 obtain ⟨k1, k2, k3, k4⟩ := unitD_ok hD
 have hok := partsL_ok k3
 refine ⟨fun q hq => ?_, greats_of k3 (fun l hl x hx => goodAll_size k2 x (cutBy_mem _ l hl x hx)), map_back (fun p hp => (hok p hp).1), k4⟩
 obtain ⟨p, _, rfl⟩ := List.mem_map.1 hq
 exact digs_good _
def kphB2 : ByteArray := ⟨#[107, 112, 104]⟩
def knownS : ByteArray := metricS ++ ⟨#[112, 108, 117, 114, 97, 108, 32, 120, 10, 119, 104, 97, 116]⟩
def knownR : List E.TRow := (E.tableOf knownS).1
def knownT : Tb := tabD (Tb.nil.rows (convR knownR))
theorem known_rows : (E.tableOf knownS).2 = (0, 0) := by decide +kernel
theorem known_ok : okD (Tb.nil.rows (convR knownR)) = true := by decide +kernel
theorem known_len : knownR.length = 16 := by decide +kernel
theorem known_sz : (convR knownR).all (fun r => r.2.all fun u => decide (u.size ≤ 2000000)) = true := by decide +kernel
theorem known_load {W : World} (tb : Tabs W) : Calls Tryz.prog 9 #[.string knownS] W (LoC W knownT) := cload_h (pair_eq known_rows) (okD_eq known_ok) (sz_all known_sz) (by show knownR.length ≤ 900000; rw [known_len]; omega) tb
theorem ss_newT (W : World) (xs : List ByteArray) (t : TypeId) : Ss (W.alloc (.cells (xs.map Value.string).toArray t)) (some ⟨W.heap.size, 0, none⟩) xs := fun _ => ⟨_, rfl, by simp, fun j x hx => by
 have e : (⟨W.heap.size, 0, none⟩ : Addr).add j = ⟨W.heap.size, j, none⟩ := by unfold Addr.add; split <;> simp_all
 rw [e]
 exact (at_new0 W (xs.map Value.string) t).ci (by rw [List.getElem?_map, hx]; rfl)⟩
theorem text_lit {n d : Nat} {l m : List UInt8} (hl : decL n = l) (hm : decL d = m) (h1 : (mkRat (n : Int) d).num = (n : Int) ∧ (mkRat (n : Int) d).den = d) (hd : d ≠ 1) : decQ (mkRat (n : Int) d) = l ++ [47] ++ m := by
 unfold decQ
 rw [h1.1, h1.2, if_neg hd]
 unfold decZ
 rw [if_neg (by omega), show ((n : Int)).natAbs = n from rfl, hl, hm]; simp
theorem parse_yesT {T : Tb} {s0 : ByteArray} {ps : List PL} (hR : T.parse s0 = .ok ps) (hl1 : T.ents.length ≤ 1000000) (hl2 : T.vals.length ≤ 1000000) (hal : ∀ a ∈ T.als, a.2.size ≤ 256) :
 (∀ W base p x, TabM base W p x T → Calls Tryz.prog 11 #[.pointer (some ⟨p, 0, none⟩), .string s0] W (fun e w' => ∃ A c, e = .returned (.tuple #[.agg #[.slice A ps.length c], .int .i64 0]) ∧ Qs w' A (ps.map ofP) ∧ Bel W w')) ∧
 (∀ W A c, Qs W A (ps.map ofP) → Calls Tryz.prog 17 #[.agg #[.slice A ps.length c]] W (StrR W (unitS ps))) := by
 have hD : ∃ u, unitD T.names T.prefs u = .ok ps := by
  unfold Tb.parse at hR
  split at hR
  ·cases hR
  ·split at hR
   ·exact ⟨_, hR⟩
   ·cases hR
 obtain ⟨u, hD⟩ := hD
 obtain ⟨hw, hgr, hmap, h4⟩ := unitD_fit hD
 refine ⟨fun W base p x h => ?_, fun W A c h => ?_⟩
 ·have h1 := tparse_h (s := s0) h hl1 hl2 hal
  rw [hR] at h1
  exact h1.mono fun e w' ⟨g, c, h2, _, _, h5, h6⟩ => ⟨_, c, h2, h5, h6⟩
 ·have h9 := great_show (e := c) h (show ps.length = (ps.map ofP).length by rw [List.length_map]) (by omega) hgr hw
  rwa [hmap] at h9
def erP (r : Except Int (List PL)) : Option (List PL) := match r with
 | .ok l => some l
 | .error _ => none
theorem known_parse : (erP (knownT.parse ⟨#[107, 112, 104, 45, 97, 110, 100, 45, 102, 111, 111, 116]⟩)).map unitS = some ⟨#[107, 105, 108, 111, 109, 101, 116, 101, 114, 45, 112, 101, 114, 45, 115, 101, 99, 111, 110, 100, 45, 97, 110, 100, 45, 102, 111, 111, 116]⟩ := by decide +kernel
theorem known_vec : knownT.vec ([], []) = some V8.z := by decide +kernel
theorem known_al : lookL knownT.als kphB2 = some ⟨#[107, 105, 108, 111, 109, 101, 116, 101, 114, 45, 112, 101, 114, 45, 115, 101, 99, 111, 110, 100]⟩ := by decide +kernel
theorem known_milli : lookL knownT.vals ⟨#[109, 105, 108, 108, 105]⟩ = some (mkRat 1 1000) := by decide +kernel
theorem known_kph : lookL knownT.ents kphB2 = none := by decide +kernel
theorem known_cel : (lookL knownT.ents ⟨#[99, 101, 108, 115, 105, 117, 115]⟩).map (fun e => (e.off, e.has)) = some (mkRat 5463 20, true) := by decide +kernel
theorem known_alsz : knownT.als.all (fun a => decide (a.2.size ≤ 256)) = true := by decide +kernel
theorem known_vals : knownT.vals.length = 2 := by decide +kernel
theorem known_qn : knownT.qn.length = 5 := by decide +kernel
theorem known_ents : knownT.ents.length = 9 := by decide +kernel
theorem known_prefs : knownT.prefs = [⟨#[107, 105, 108, 111]⟩, ⟨#[109, 105, 108, 108, 105]⟩] := by decide +kernel
theorem known_quan : knownT.qv[3]? = some ⟨1, -1, 0, 0, 0, 0, 0, 0⟩ ∧ knownT.qn[3]? = some ⟨#[115, 112, 101, 101, 100]⟩ := by decide +kernel
def footS : ByteArray := ⟨#[102, 111, 111, 116]⟩
def meterS : ByteArray := ⟨#[109, 101, 116, 101, 114]⟩
def entD (o : Option Ent) : Ent := o.getD ⟨⟨#[]⟩, 0, 0, 0, false, V8.z, 0⟩
theorem entD_eq {o : Option Ent} (h : o.isSome = true) : o = some (entD o) := by
 cases o with
 | none => cases h
 | some e => rfl
theorem foot_some : (lookL awakeT.ents footS).isSome = true := by decide +kernel
theorem meter_some : (lookL awakeT.ents meterS).isSome = true := by decide +kernel
theorem foot_facts : (entD (lookL awakeT.ents footS)).id = meterS ∧ (entD (lookL awakeT.ents footS)).base = -1 ∧ (entD (lookL awakeT.ents footS)).fac = mkRat 381 1250 := by decide +kernel
theorem meter_base : (entD (lookL awakeT.ents meterS)).base = 0 := by decide +kernel
theorem foot_text : decQ (mkRat 381 1250) = [51, 56, 49, 47, 49, 50, 53, 48] := by
 have h1 : (mkRat 381 1250).num = 381 ∧ (mkRat 381 1250).den = 1250 := by decide +kernel
 unfold decQ
 rw [h1.1, h1.2, if_neg (by decide)]
 unfold decZ
 rw [if_neg (by decide), show (381 : Int).natAbs = 381 from rfl]
 rw [decL_lit (m := 381) (ds := [1, 8, 3]) (l := [51, 56, 49]) (by intro x hx; simp at hx; omega) (by intro x hx; simp at hx; omega) rfl (by decide) (by decide), decL_lit (m := 1250) (ds := [0, 5, 2, 1]) (l := [49, 50, 53, 48]) (by intro x hx; simp at hx; omega) (by intro x hx; simp at hx; omega) rfl (by decide) (by decide)]
 rfl
theorem awake_h {W : World} (tb : Tabs W) : Calls Tryz.prog 7 #[] W (RetB W true) := by
 have CL : Hid (Calls Tryz.prog 9 #[.string awakeS] W (LoC W awakeT)) := awake_load tb
 obtain ⟨f1, f2, f3⟩ := foot_facts
 obtain ⟨fr, hfr⟩ : ∃ r, mkRat 381 1250 = r := ⟨_, rfl⟩
 have hft := foot_text
 rw [hfr] at f3 hft
 have CE1 : Hid (∀ W' base p x, TabM base W' p x awakeT → Calls Tryz.prog 16 #[.pointer (some ⟨p, 0, none⟩), .string footS] W' (fun e w' => ∃ b A n c A' n' c' b2 B k d B' k' d' ho, e = .returned (.tuple #[.agg #[.string footS, .string meterS, .int .i64 (-1), .bool b, .slice A n c, .slice A' n' c', .bool b2, .slice B k d, .slice B' k' d', .bool ho], .bool true]) ∧ QA w' b A n c A' n' c' fr 101 ∧ Bel W' w')) := fun W' base p x h => by
  have h1 := tentry_h (s := footS) h (by decide)
  rw [entD_eq foot_some] at h1
  refine h1.mono ?_
  rintro e w' ⟨b, A, n, c, A', n', c', b2, B, k, d, B', k', d', h2, h3, _, h5⟩
  rw [f1, f2] at h2
  rw [f3] at h3
  exact ⟨b, A, n, c, A', n', c', b2, B, k, d, B', k', d', _, h2, h3, h5⟩
 have CE2 : Hid (∀ W' base p x, TabM base W' p x awakeT → Calls Tryz.prog 16 #[.pointer (some ⟨p, 0, none⟩), .string meterS] W' (fun e w' => ∃ id b A n c A' n' c' b2 B k d B' k' d' ho, e = .returned (.tuple #[.agg #[.string meterS, .string id, .int .i64 0, .bool b, .slice A n c, .slice A' n' c', .bool b2, .slice B k d, .slice B' k' d', .bool ho], .bool true]) ∧ Bel W' w')) := fun W' base p x h => by
  have h1 := tentry_h (s := meterS) h (by decide)
  rw [entD_eq meter_some] at h1
  refine h1.mono ?_
  rintro e w' ⟨b, A, n, c, A', n', c', b2, B, k, d, B', k', d', h2, _, _, h5⟩
  rw [meter_base] at h2
  exact ⟨_, b, A, n, c, A', n', c', b2, B, k, d, B', k', d', _, h2, h5⟩
 have CT : Hid (∀ W' b A n c A' n' c', QA W' b A n c A' n' c' fr 101 → Calls Tryz.prog 18 #[.agg #[.bool b, .slice A n c, .slice A' n' c']] W' (fun e w' => e = .returned (.string ⟨#[51, 56, 49, 47, 49, 50, 53, 48]⟩) ∧ Bel W' w')) := fun W' b A n c A' n' c' hq => (rtext_h hq (by decide) (by decide)).mono (by
  rintro e w' ⟨u, h1, h2, h3⟩
  have h4 : u = ⟨#[51, 56, 49, 47, 49, 50, 53, 48]⟩ := by
   have h5 := h2.out
   rw [hft] at h5
   obtain ⟨d⟩ := u
   have h6 : d = #[51, 56, 49, 47, 49, 50, 53, 48] := by rw [← Array.toArray_toList (xs := d)]; exact congrArg List.toArray h5
   rw [h6]
  rw [h4] at h1
  exact ⟨h1, h3⟩)
 unfold awakeS at CL
 unfold footS meterS at CE1
 unfold meterS at CE2
 clear f1 f2 f3 hfr hft tb
 go_enter Tryz.func7, Tryz.ntmps7
 go_upto_region 4 with (first | (go_at_call 9; (with_reducible refine CL.out.mono ?_); rintro e w1 ⟨base, p, x, hbs, rfl, ht, hb1⟩) | fail)
 go_upto_region 5 with (first | (go_at_call 16; (with_reducible refine (CE1.out _ _ _ _ ht).mono ?_); rintro e w2 ⟨b, A, n, c, A', n', c', b2, B, k, d, B', k', d', ho, rfl, hq, hb2⟩) | (refine wpList_store_new 55 [.string ⟨#[102, 111, 111, 116]⟩, .string ⟨#[109, 101, 116, 101, 114]⟩, .int .i64 (-1), .bool b, .slice A n c, .slice A' n' c', .bool b2, .slice B k d, .slice B' k' d', .bool ho] (.tmp 4) (.tmp 22) _ rfl rfl rfl rfl (by kernel_rfl) rfl rfl ?_) | fail)
 refine kwp_named ?_
 intro w3 hw3
 have HE : At w3 w2.heap.size [.string ⟨#[102, 111, 111, 116]⟩, .string ⟨#[109, 101, 116, 101, 114]⟩, .int .i64 (-1), .bool b, .slice A n c, .slice A' n' c', .bool b2, .slice B k d, .slice B' k' d', .bool ho] := by rw [hw3]; exact at_new0 _ _ _
 replace ht : TabM base w3 p x awakeT := by rw [hw3]; exact (ht.up hb2.hid).al _
 have HB : Bel W w3 := by rw [hw3]; exact (hb1.up hb2.hid).al _
 replace hq : QA w3 b A n c A' n' c' fr 101 := by rw [hw3]; exact hq.al _
 obtain ⟨q4, hq4⟩ : ∃ z, z = w2.heap.size := ⟨_, rfl⟩
 rw [← hq4] at HE ⊢
 clear hw3 hq4 hb1 hb2 hbs
 go_upto_region 6 with (first | (go_at_call 16; (with_reducible refine (CE2.out _ _ _ _ ht).mono ?_); rintro e w4 ⟨id2, b5, A5, n5, c5, A6, n6, c6, b6, B5, k5, d5, B6, k6, d6, ho6, rfl, hb4⟩) | (refine wpList_store_new 55 [.string ⟨#[109, 101, 116, 101, 114]⟩, .string id2, .int .i64 0, .bool b5, .slice A5 n5 c5, .slice A6 n6 c6, .bool b6, .slice B5 k5 d5, .slice B6 k6 d6, .bool ho6] (.tmp 6) (.tmp 27) _ rfl rfl rfl rfl (by kernel_rfl) rfl rfl ?_) | fail)
 refine kwp_named ?_
 intro w5 hw5
 have HF : At w5 w4.heap.size [.string ⟨#[109, 101, 116, 101, 114]⟩, .string id2, .int .i64 0, .bool b5, .slice A5 n5 c5, .slice A6 n6 c6, .bool b6, .slice B5 k5 d5, .slice B6 k6 d6, .bool ho6] := by rw [hw5]; exact at_new0 _ _ _
 replace HE := (HE.up hb4.hid).al (.cells #[.string ⟨#[109, 101, 116, 101, 114]⟩, .string id2, .int .i64 0, .bool b5, .slice A5 n5 c5, .slice A6 n6 c6, .bool b6, .slice B5 k5 d5, .slice B6 k6 d6, .bool ho6] 55)
 replace hq := (hq.up hb4.hid).al (.cells #[.string ⟨#[109, 101, 116, 101, 114]⟩, .string id2, .int .i64 0, .bool b5, .slice A5 n5 c5, .slice A6 n6 c6, .bool b6, .slice B5 k5 d5, .slice B6 k6 d6, .bool ho6] 55)
 replace HB : Bel W w5 := by rw [hw5]; exact (HB.up hb4.hid).al _
 rw [← hw5] at HE hq
 obtain ⟨q6, hq6⟩ : ∃ z, z = w4.heap.size := ⟨_, rfl⟩
 rw [← hq6] at HF ⊢
 clear hw5 hq6 hb4 ht
 have e1 := HE.c1; have e2 := HE.c2; have e3 := at_nth HE 3 rfl; have e4 := at_nth HE 4 rfl; have e5 := at_nth HE 5 rfl; have el := HE.lt
 have g2 := HF.c2; have gl := HF.lt
 go_wp2_with (first | (go_at_call 18; (with_reducible refine (CT.out _ _ _ _ _ _ _ _ hq).mono ?_); rintro e w6 ⟨rfl, hb6⟩; replace HE := HE.up hb6.hid; replace HF := HF.up hb6.hid; replace HB := HB.up hb6.hid; clear e1 e2 e3 e4 e5 el g2 gl; have e1 := HE.c1; have e2 := HE.c2; have el := HE.lt; have g2 := HF.c2; have gl := HF.lt) | fail)
 go_ret
 exact ⟨rfl, HB⟩
section
variable {base p : Nat} {W : World} {x : TPl} {T : Tb} {s : ByteArray}
theorem talias_h (h : TabM base W p x T) (hs : s.size ≤ 2000000) : Calls Tryz.prog 14 #[.pointer (some ⟨p, 0, none⟩), .string s] W fun e w' => e = .returned (.tuple #[.string ((lookL T.als s).getD ⟨#[]⟩), .bool (lookL T.als s).isSome]) ∧ Bel W w' := by
 obtain ⟨ai, k2, hai⟩ := h.lookA hs
 rw [← hai]
 obtain ⟨b2, hb2⟩ : ∃ b, (lookL T.als s).isSome = b := ⟨_, rfl⟩
 rw [hb2] at k2 ⊢
 have q4 := h.c4; have qp := h.lt
 have HB := Bel.refl W
 have k2 := k2 W (Turn.refl W)
 clear h hs hai hb2
 go_enter Tryz.func14, Tryz.ntmps14
 go_wp2
 refine bodyPost_ret (v := .tuple #[.string ai, .bool b2]) (by simp [results, Tryz.results14, go_sem]) rfl ⟨rfl, ?_⟩
 first | exact HB.al _ | exact HB | exact (HB.al _).al _
end
end Go.Proofs.YtfflmmbhpchloaaGreatDoor
end
