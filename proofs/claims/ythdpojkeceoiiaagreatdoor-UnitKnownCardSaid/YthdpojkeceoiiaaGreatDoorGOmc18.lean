/- Several texts in one, each with its own sentence and conditions. -/
import Derived.Test.YthdpojkeceoiiaaGreatDoorGOmc17
import Derived.Test.YthdpojkeceoiiaaGreatDoorGOmc3
import Derived.Sort.LotA
import Derived.Test.YthdpojkeceoiiaaGreatDoorGOmc1
import Derived.Sort.WalkA
import Derived.Shelf.GgSortFunc.SmallK
import Derived.Deep.AppendLies
import Derived.Lib.SliceRun
import Derived.Shelf.Strings.OnBuilder
import Derived.Shelf.Strings.Split
import Derived.Ground.GgsProg
import Derived.Test.YthdpojkeceoiiaaGreatDoorProg
section
/- The document's own atoms: the walk. Conditions: texts and lists that fit. -/
open Go.RowKit
set_option maxRecDepth 100000
namespace Go.Proofs.YthdpojkeceoiiaaGreatDoor
theorem at_news {W : World} {b : Nat} {xs : List Value} (h : At W b xs) : ∀ j u, xs[j]? = some u → W.cell? ((⟨b, 0, none⟩ : Addr).add j) = some u := fun j u hu => by
  have e : (⟨b, 0, none⟩ : Addr).add j = ⟨b, j, none⟩ := by unfold Addr.add; split <;> simp_all
  rw [e]; exact At.ci h hu
theorem cellA_one (a : AL) : ∀ u ∈ cellA a, u.oneCell' = true := by
  intro u hu
  simp only [cellA, List.mem_cons, List.not_mem_nil, or_false] at hu
  rcases hu with rfl | rfl | rfl <;> rfl
set_option maxHeartbeats 4000000 in
theorem ratoms_any {A B D : Option Addr} {n c m d j g : Nat} {names ps l : List ByteArray} {w : World} (h : Ss w A names) (hn : n = names.length) (hl : n ≤ 1000000) (h' : Ss w B ps) (hm : m = ps.length) (hl' : m ≤ 1000000) (h2 : Ss w D l) (hj : j = l.length) (hjg : j ≤ g) (hjl : j ≤ 1000000) (hu : ∀ x ∈ l, x.size ≤ 2000000) (hps : ∀ x ∈ ps, x.size ≤ 2000000) {res : Option (List AL)} (hres : atomsL names ps l = res) :
    Calls Tryz.prog 69 #[.agg #[.slice A n c, .slice B m d], .slice D j g] w (AtomsR w res) := by
  obtain ⟨W1, hW1⟩ : ∃ X, X = w.alloc (.cells #[.slice A n c, .slice B m d] 48) := ⟨_, rfl⟩
  have HA : At W1 w.heap.size [.slice A n c, .slice B m d] := by rw [hW1]; exact at_new0 _ _ _
  have HBW : Bel w W1 := by rw [hW1]; exact (Bel.refl w).al _
  have CP : Hid (∀ (W : World) (D : Option Addr) (j' g' k : Nat), Bel w W → Ss W D (l.drop k) → j' = l.length - k → Calls Tryz.prog 96 #[.agg #[.slice A n c, .slice B m d], .slice D j' g'] W (PRes W (parseA names ps (l.drop k)))) := fun W D j' g' k hb hd hk =>
    rparse_any (h.up hb.hid) hn hl (h'.up hb.hid) hm hl' hd (by rw [List.length_drop]; exact hk) (fun x hx => hu x (List.mem_of_mem_drop hx)) hps
  have HW := khide hW1
  have HD2 : Ss W1 D l := h2.up (by rw [hW1]; exact (Below.refl _ _).alloc (Nat.le_refl _) _)
  have HN := khide hj
  have HR : Hid (res = combA [] (atomsL names ps (l.drop 0))) := by rw [combA_start, ← hres]; rfl
  obtain ⟨i0, hi, hz0, hz1, hz2⟩ := info_parts infoAtomC
  have J0 := khide hi; have Y0 := khide hz0; have Y1 := khide hz1; have Y2 := khide hz2
  clear hi hz0 hz1 hz2 hW1 hj hres h h' h2 hu hps hn hm hl hl'
  go_enter Tryz.func69, Tryz.ntmps69
  go_upto_region 1 with fail
  rw [← HW.out]
  go_wp2_with fail
  go_loopw [1, 6] (fun lv rv wr => ∃ (k j' g' cp : Nat) (D' R : Option Addr) (acc : List AL), lv = .slice D' j' g' ∧ rv = .slice R acc.length cp ∧ j' + k = j ∧ acc.length ≤ k ∧ j' ≤ g' ∧ Hid (Ss W1 D' (l.drop k)) ∧ Hid (res = combA acc (atomsL names ps (l.drop k))) ∧
    Hid (wr.ownsRow W1.heap.size 125 3 (.slice R acc.length cp) acc.length (cellsA acc)) ∧ Hid (Below W1.heap.size W1 wr)) (fun lv _ _ => match lv with | .slice _ j _ => j | _ => 0)
  case atStart => exact ⟨0, j, g, 0, D, none, [], rfl, rfl, rfl, Nat.le_refl _, hjg, HD2, HR.out, World.ownsRow_nil _ _ _ _, Below.refl _ _⟩
  case round =>
    obtain ⟨k, j', g', cp, D', R, acc, rfl, rfl, hjk, hacc, hjg', HS, HC, HO, HB⟩ := hrel
    have HAR := HA.up HB
    have HBS : Hid (W1.heap.size ≤ wr.heap.size) := HB.out.size
    have hBR : Hid (Bel w wr) := HBW.up HB
    have ha_0 := HAR.c0; have ha_1 := HAR.c1; have ha_l := HAR.lt
    by_cases h0 : 0 < j'
    · obtain ⟨pa, hpa⟩ : ∃ x, parseA names ps (l.drop k) = x := ⟨_, rfl⟩
      obtain ⟨p, nm, pk, t, ok⟩ := pa
      have C1 : Hid (∀ q : Nat, Calls Tryz.prog 96 #[.agg #[.slice A n c, .slice B m d], .slice D' j' g'] (wr.drewN q) (PRes (wr.drewN q) ⟨p, nm, pk, t, ok⟩)) := fun q => by
        rw [← hpa]
        exact CP.out _ D' j' g' k (ybelow_drewN hBR.out q) ((HS.out.up HB).dn q) (by rw [← HN.out]; omega)
      have C0 : Hid (Calls Tryz.prog 96 #[.agg #[.slice A n c, .slice B m d], .slice D' j' g'] wr (PRes wr ⟨p, nm, pk, t, ok⟩)) := C1.out 0
      have d0 : decide ((0 : Int) < (j' : Int)) = true := decide_eq_true (by omega)
      cases ok with
      | false =>
        have HV : Hid (res = none) := HC.out.trans (combA_bad (by rw [List.length_drop, ← HN.out]; omega) (by rw [hpa]))
        clear hpa
        go_wp2_with (first | (go_at_call 96; (with_reducible refine (C0.out).mono ?_); rintro e w2 ⟨rfl, hb2⟩) | fail)
        go_ret2
        rw [HV.out]
        exact ⟨rfl, ((hBR.out.up hb2.hid).al _)⟩
      | true =>
        have HV : Hid (res = combA (acc ++ [(p, nm, (pk : Int))]) (atomsL names ps (l.drop (k + t)))) := by
          have := HC.out.trans (combA_more hpa); rwa [List.drop_drop] at this
        have ht := parseA_t (names := names) (ps := ps) (l := l.drop k) (by rw [hpa])
        rw [hpa, List.length_drop, ← HN.out] at ht
        obtain ⟨t1, t2, t3⟩ := ht
        clear hpa
        go_wp2_with (first | (go_at_call 96; (with_reducible refine (C0.out).mono ?_); rintro e w2 ⟨rfl, hb2⟩) | (at_builtin; go_must (refine wpList_append_own _ rfl (.tmp 22) (.tmp 24) 84 rfl W1.heap.size 125 i0 (.agg #[.string ByteArray.empty, .string ByteArray.empty, .int .i64 0]) 3 40 Tryz.underlying84 J0.out Y0.out Y1.out Y2.out rfl (by decide) _ _ _ rfl (((own_up HO.out hb2.hid).alloc _).alloc _) ⟨w2.heap.size + 1, 0, none⟩ 1 1 (cellA (p, nm, (pk : Int))) rfl rfl (at_news (at_new1 _ _ _ _)) (cellA_one _) (by simp only [maxLen]; omega) (by omega) (Nat.le_trans HBS.out (Nat.le_trans hb2.size (by simp; omega))) ?_); intro v1 w3 ho1 hg1 hn1; clear hn1) | fail)
        have hg2 : ((w2.alloc (.cells #[.string p, .string nm, .int .i64 (pk : Int)] 125)).alloc (.cells #[.string p, .string nm, .int .i64 (pk : Int)] 125)).grownBy w3 (Value.slice R acc.length cp).ownBlock := hg1
        have HO2 := own_up HO.out hb2.hid
        have HB2 : Hid (Below W1.heap.size W1 w2) := HB.out.trans (hb2.mono HBS.out)
        have HB3 : Hid (Below W1.heap.size W1 w3) := ((HB2.out.alloc HB2.out.size _).alloc (HB2.out.alloc HB2.out.size _).size _).grown hg2 ((HB2.out.alloc HB2.out.size _).alloc (HB2.out.alloc HB2.out.size _).size _).size (fun g' e => (HO2.lt g' e).1)
        obtain ⟨R2, cp2, rfl, _⟩ := own_slice ho1
        have HS3 : Ss W1 (if g' = t then D' else Option.map (fun x => x.add t) D') (l.drop (k + t)) := by
          have := HS.out.sub (t := t) (g := g') (by rw [List.length_drop, ← HN.out]; omega)
          rwa [List.drop_drop] at this
        have HO3 := khide ho1
        clear hg1 hg2 ho1 HO2
        go_roundw
        case rel =>
          refine ⟨k + t, j' - t, g' - t, cp2, _, R2, acc ++ [(p, nm, (pk : Int))], rfl, by simp, by omega, by simp; omega, by omega, HS3, HV, ?_, HB3⟩
          rw [cellsA_snoc]
          unfold Hid
          simpa using HO3.out
        case measure => show j' - t < j'; omega
    · obtain rfl : j' = 0 := by omega
      go_wp2
      go_ret2
      have e0 : l.drop k = [] := List.drop_eq_nil_of_le (by rw [← HN.out]; omega)
      have HV := HC.out
      rw [e0, atomsL_nil, combA_end] at HV
      rw [HV]
      refine ⟨R, cp, rfl, ?_, own_base HO.out HBW.size, hBR.out⟩
      obtain ⟨A1, c1, e1, h1⟩ := own_slice HO.out
      injection e1 with e2 _ e3
      subst e2; subst e3
      exact h1
end Go.Proofs.YthdpojkeceoiiaaGreatDoor
end

section
/- unit.parseAtoms. Conditions: texts and lists that fit. -/
open Go.RowKit
set_option maxRecDepth 100000
namespace Go.Proofs.YthdpojkeceoiiaaGreatDoor
theorem infoAtomP : (Tryz.prog.info? 59).map (fun i => (i.zero, i.size, i.bytes)) = some (some (.agg #[.string ByteArray.empty, .string ByteArray.empty, .int .i64 0]), 3, 40) := by kernel_rfl
/-- What a row of atoms comes to. -/
def AtomsP (W : World) (r : Option (List AL)) (e : Ending) (w' : World) : Prop := match r with
  | none => e = .returned (.tuple #[.slice none 0 0, .bool false]) ∧ Bel W w'
  | some l => ∃ A c, e = .returned (.tuple #[.slice A l.length c, .bool true]) ∧ (A = none → c = 0) ∧ Hid (w'.ownsRow W.heap.size 59 3 (.slice A l.length c) l.length (cellsA l)) ∧ Bel W w'
set_option maxHeartbeats 4000000 in
theorem patoms_any {A B D : Option Addr} {n c m d j g : Nat} {names ps l : List ByteArray} {w : World} (h : Ss w A names) (hn : n = names.length) (hl : n ≤ 1000000) (h' : Ss w B ps) (hm : m = ps.length) (hl' : m ≤ 1000000) (h2 : Ss w D l) (hj : j = l.length) (hjg : j ≤ g) (hjl : j ≤ 1000000) (hu : ∀ x ∈ l, x.size ≤ 140737488355328) {res : Option (List AL)} (hres : atomsL names ps l = res) :
    Calls Tryz.prog 49 #[.agg #[.slice A n c, .slice B m d], .slice D j g] w (AtomsP w res) := by
  obtain ⟨W1, hW1⟩ : ∃ X, X = w.alloc (.cells #[.slice A n c, .slice B m d] 31) := ⟨_, rfl⟩
  have HA : At W1 w.heap.size [.slice A n c, .slice B m d] := by rw [hW1]; exact at_new0 _ _ _
  have HBW : Bel w W1 := by rw [hW1]; exact (Bel.refl w).al _
  have CP : Hid (∀ (W : World) (D : Option Addr) (j' g' k : Nat), Bel w W → Ss W D (l.drop k) → j' = l.length - k → Calls Tryz.prog 77 #[.agg #[.slice A n c, .slice B m d], .slice D j' g'] W (PRes W (parseA names ps (l.drop k)))) := fun W D j' g' k hb hd hk =>
    parse_any (h.up hb.hid) hn hl (h'.up hb.hid) hm hl' hd (by rw [List.length_drop]; exact hk) (fun x hx => hu x (List.mem_of_mem_drop hx))
  have HW := khide hW1
  have HD2 : Ss W1 D l := h2.up (by rw [hW1]; exact (Below.refl _ _).alloc (Nat.le_refl _) _)
  have HN := khide hj
  have HR : Hid (res = combA [] (atomsL names ps (l.drop 0))) := by rw [combA_start, ← hres]; rfl
  obtain ⟨i0, hi, hz0, hz1, hz2⟩ := info_parts infoAtomP
  have J0 := khide hi; have Y0 := khide hz0; have Y1 := khide hz1; have Y2 := khide hz2
  clear hi hz0 hz1 hz2 hW1 hj hres h h' h2 hu hn hm hl hl'
  go_enter Tryz.func49, Tryz.ntmps49
  go_upto_region 1 with fail
  rw [← HW.out]
  go_wp2_with fail
  go_loopw [1, 6] (fun lv rv wr => ∃ (k j' g' cp : Nat) (D' R : Option Addr) (acc : List AL), lv = .slice D' j' g' ∧ rv = .slice R acc.length cp ∧ j' + k = j ∧ acc.length ≤ k ∧ j' ≤ g' ∧ Hid (Ss W1 D' (l.drop k)) ∧ Hid (res = combA acc (atomsL names ps (l.drop k))) ∧
    Hid (wr.ownsRow W1.heap.size 59 3 (.slice R acc.length cp) acc.length (cellsA acc)) ∧ Hid (Below W1.heap.size W1 wr)) (fun lv _ _ => match lv with | .slice _ j _ => j | _ => 0)
  case atStart => exact ⟨0, j, g, 0, D, none, [], rfl, rfl, rfl, Nat.le_refl _, hjg, HD2, HR.out, World.ownsRow_nil _ _ _ _, Below.refl _ _⟩
  case round =>
    obtain ⟨k, j', g', cp, D', R, acc, rfl, rfl, hjk, hacc, hjg', HS, HC, HO, HB⟩ := hrel
    have HAR := HA.up HB
    have HBS : Hid (W1.heap.size ≤ wr.heap.size) := HB.out.size
    have hBR : Hid (Bel w wr) := HBW.up HB
    have ha_0 := HAR.c0; have ha_1 := HAR.c1; have ha_l := HAR.lt
    by_cases h0 : 0 < j'
    · obtain ⟨pa, hpa⟩ : ∃ x, parseA names ps (l.drop k) = x := ⟨_, rfl⟩
      obtain ⟨p, nm, pk, t, ok⟩ := pa
      have C1 : Hid (∀ q : Nat, Calls Tryz.prog 77 #[.agg #[.slice A n c, .slice B m d], .slice D' j' g'] (wr.drewN q) (PRes (wr.drewN q) ⟨p, nm, pk, t, ok⟩)) := fun q => by
        rw [← hpa]
        exact CP.out _ D' j' g' k (ybelow_drewN hBR.out q) ((HS.out.up HB).dn q) (by rw [← HN.out]; omega)
      have C0 : Hid (Calls Tryz.prog 77 #[.agg #[.slice A n c, .slice B m d], .slice D' j' g'] wr (PRes wr ⟨p, nm, pk, t, ok⟩)) := C1.out 0
      have d0 : decide ((0 : Int) < (j' : Int)) = true := decide_eq_true (by omega)
      cases ok with
      | false =>
        have HV : Hid (res = none) := HC.out.trans (combA_bad (by rw [List.length_drop, ← HN.out]; omega) (by rw [hpa]))
        clear hpa
        go_wp2_with (first | (go_at_call 77; (with_reducible refine (C0.out).mono ?_); rintro e w2 ⟨rfl, hb2⟩) | fail)
        go_ret2
        rw [HV.out]
        exact ⟨rfl, ((hBR.out.up hb2.hid).al _)⟩
      | true =>
        have HV : Hid (res = combA (acc ++ [(p, nm, (pk : Int))]) (atomsL names ps (l.drop (k + t)))) := by
          have := HC.out.trans (combA_more hpa); rwa [List.drop_drop] at this
        have ht := parseA_t (names := names) (ps := ps) (l := l.drop k) (by rw [hpa])
        rw [hpa, List.length_drop, ← HN.out] at ht
        obtain ⟨t1, t2, t3⟩ := ht
        clear hpa
        go_wp2_with (first | (go_at_call 77; (with_reducible refine (C0.out).mono ?_); rintro e w2 ⟨rfl, hb2⟩) | (at_builtin; go_must (refine wpList_append_own _ rfl (.tmp 22) (.tmp 24) 36 rfl W1.heap.size 59 i0 (.agg #[.string ByteArray.empty, .string ByteArray.empty, .int .i64 0]) 3 40 Tryz.underlying36 J0.out Y0.out Y1.out Y2.out rfl (by decide) _ _ _ rfl (((own_up HO.out hb2.hid).alloc _).alloc _) ⟨w2.heap.size + 1, 0, none⟩ 1 1 (cellA (p, nm, (pk : Int))) rfl rfl (at_news (at_new1 _ _ _ _)) (cellA_one _) (by simp only [maxLen]; omega) (by omega) (Nat.le_trans HBS.out (Nat.le_trans hb2.size (by simp; omega))) ?_); intro v1 w3 ho1 hg1 hn1; clear hn1) | fail)
        have hg2 : ((w2.alloc (.cells #[.string p, .string nm, .int .i64 (pk : Int)] 59)).alloc (.cells #[.string p, .string nm, .int .i64 (pk : Int)] 59)).grownBy w3 (Value.slice R acc.length cp).ownBlock := hg1
        have HO2 := own_up HO.out hb2.hid
        have HB2 : Hid (Below W1.heap.size W1 w2) := HB.out.trans (hb2.mono HBS.out)
        have HB3 : Hid (Below W1.heap.size W1 w3) := ((HB2.out.alloc HB2.out.size _).alloc (HB2.out.alloc HB2.out.size _).size _).grown hg2 ((HB2.out.alloc HB2.out.size _).alloc (HB2.out.alloc HB2.out.size _).size _).size (fun g' e => (HO2.lt g' e).1)
        obtain ⟨R2, cp2, rfl, _⟩ := own_slice ho1
        have HS3 : Ss W1 (if g' = t then D' else Option.map (fun x => x.add t) D') (l.drop (k + t)) := by
          have := HS.out.sub (t := t) (g := g') (by rw [List.length_drop, ← HN.out]; omega)
          rwa [List.drop_drop] at this
        have HO3 := khide ho1
        clear hg1 hg2 ho1 HO2
        go_roundw
        case rel =>
          refine ⟨k + t, j' - t, g' - t, cp2, _, R2, acc ++ [(p, nm, (pk : Int))], rfl, by simp, by omega, by simp; omega, by omega, HS3, HV, ?_, HB3⟩
          rw [cellsA_snoc]
          unfold Hid
          simpa using HO3.out
        case measure => show j' - t < j'; omega
    · obtain rfl : j' = 0 := by omega
      go_wp2
      go_ret2
      have e0 : l.drop k = [] := List.drop_eq_nil_of_le (by rw [← HN.out]; omega)
      have HV := HC.out
      rw [e0, atomsL_nil, combA_end] at HV
      rw [HV]
      refine ⟨R, cp, rfl, ?_, own_base HO.out HBW.size, hBR.out⟩
      obtain ⟨A1, c1, e1, h1⟩ := own_slice HO.out
      injection e1 with e2 _ e3
      subst e2; subst e3
      exact h1
end Go.Proofs.YthdpojkeceoiiaaGreatDoor
end

section
/- Atoms in order: one sorted list for all lists that hold the same atoms. No conditions. -/
set_option maxRecDepth 100000
namespace Go.Proofs.YthdpojkeceoiiaaGreatDoor
def ltQ (a b : AL) : Bool := lessB a.1 a.2.1 a.2.2 b.1 b.2.1 b.2.2
theorem ltQ_tot {a b : AL} (h : ltQ a b = false) (h' : ltQ b a = false) : a = b := by
  obtain ⟨p, n, k⟩ := a
  obtain ⟨p', n', k'⟩ := b
  rcases Bool.eq_false_or_eq_true (eqA p n k p' n' k') with e | e
  · obtain ⟨rfl, rfl, rfl⟩ := of_decide_eq_true e; rfl
  · have := lessB_tri e
    have h1 : lessB p n k p' n' k' = false := h
    have h2 : lessB p' n' k' p n k = false := h'
    rw [h1, h2] at this; cases this
theorem swo_ltQ : Sort.SWO ltQ where
  irrefl x := lessB_irr
  trans x y z h h' := lessB_tr h h'
  ntrans x y z h h' := by
    rw [Bool.eq_false_iff]
    intro h9
    rcases Bool.eq_false_or_eq_true (ltQ y x) with e | e
    · have := lessB_tr (show lessB y.1 y.2.1 y.2.2 x.1 x.2.1 x.2.2 = true from e) h9
      have h2 : ltQ y z = true := this
      rw [h'] at h2; cases h2
    · obtain rfl := ltQ_tot h e
      rw [h'] at h9; cases h9
/-- The atoms in order. -/
def sortQ (l : List AL) : List AL := (Sort.insertionSort ltQ l.toArray 0 l.length).toList
theorem sortQ_facts (l : List AL) : (sortQ l).Perm l ∧ Sort.SortedIn ltQ 0 l.length (Sort.insertionSort ltQ l.toArray 0 l.length) ∧ (Sort.insertionSort ltQ l.toArray 0 l.length).size = l.length := by
  obtain ⟨⟨h1, h2, h3⟩, h4⟩ := Sort.insertionSort_holds swo_ltQ l.toArray 0 l.length (Nat.zero_le _) (by simp)
  refine ⟨?_, h4, by simpa using h1⟩
  have hs : (Sort.insertionSort ltQ l.toArray 0 l.length).size = l.length := by simpa using h1
  have e1 : (Sort.insertionSort ltQ l.toArray 0 l.length).extract 0 l.length = Sort.insertionSort ltQ l.toArray 0 l.length := by
    have := Array.extract_size (xs := Sort.insertionSort ltQ l.toArray 0 l.length)
    rwa [hs] at this
  have e2 : l.toArray.extract 0 l.length = l.toArray := by
    simp
  rw [e1, e2] at h3
  exact h3
theorem sortQ_len (l : List AL) : (sortQ l).length = l.length := (sortQ_facts l).1.length_eq
theorem sortQ_unique {l m : List AL} (h : l.Perm m) : sortQ l = sortQ m := by
  have key : ∀ {m : List AL}, l.Perm m → (Sort.insertionSort ltQ m.toArray 0 m.length).toList = l.toArray.toList.mergeSort (fun x y => !ltQ y x) := fun {m} h => by
    obtain ⟨h1, h2, h3⟩ := sortQ_facts m
    have hl := h.length_eq
    refine Sort.sorted_unique_holds swo_ltQ (fun x y => ltQ_tot) l.toArray _ ⟨by rw [h3]; simp [hl], fun i hi => ?_, ?_⟩ (by rw [show l.toArray.size = m.length by simp [hl]]; exact h2)
    · rcases hi with hi | hi
      · omega
      · have hi' : l.length ≤ i := by simpa using hi
        rw [getElem!_neg _ _ (by rw [h3]; omega), getElem!_neg _ _ (by simpa using hi')]
    · have e1 : (Sort.insertionSort ltQ m.toArray 0 m.length).extract 0 l.toArray.size = Sort.insertionSort ltQ m.toArray 0 m.length := by
        rw [show l.toArray.size = (Sort.insertionSort ltQ m.toArray 0 m.length).size by rw [h3]; simp [hl]]
        exact Array.extract_size
      rw [e1, Array.extract_size]
      exact h1.trans h.symm
  exact (key (List.Perm.refl l)).trans (key h).symm
end Go.Proofs.YthdpojkeceoiiaaGreatDoor
end

section
/- The library's sort of few atoms, whose 'less' may lay blocks. Conditions: at most 12 atoms. -/
open Go.RowKit
set_option maxRecDepth 100000
namespace Go.Proofs.YthdpojkeceoiiaaGreatDoor
/-- What 'less' and 'swap' do to what reads as the row dk. -/
structure Sorts (g : Nat) (lb : Array Value) (sf : Nat) (sb : Array Value) (n blk : Nat) (R : Array AL → World → Prop) : Prop where
  less : ∀ (dk : Array AL) (W : World), R dk W → dk.size = n → ∀ i j : Nat, i < n → j < n → Calls Tryz.prog g (#[.int .i64 i, .int .i64 j] ++ lb) W fun e w' => e = .returned (.bool (ltQ dk[i]! dk[j]!)) ∧ Bel W w' ∧ R dk w'
  swap : 2 ≤ n → ∀ (dk : Array AL) (W : World), R dk W → dk.size = n → ∀ i j : Nat, i < n → j < n → ∃ W', (callFunc sf (#[.int .i64 i, .int .i64 j] ++ sb)).run Tryz.prog W = .ok (.value (.tuple #[])) W' ∧ R (Sort.swp dk i j) W' ∧ ∀ p vs, p ≠ blk → At W p vs → At W' p vs
  alloc : ∀ (dk : Array AL) (W : World) (o : Obj), R dk W → R dk (W.alloc o)
  drew : ∀ (dk : Array AL) (W : World), R dk W → R dk W.drew
set_option maxHeartbeats 8000000 in
theorem insSort_any {g sf n blk a b : Nat} {lb sb : Array Value} {R : Array AL → World → Prop} (S : Sorts g lb sf sb n blk R) (eg : ∀ args w, (callFunc g args).run Tryz.prog w = .ok (.enter g args) w) {d : Array AL} {w : World} (h : R d w) (hs : d.size = n) (hab : a ≤ b) (hb : b ≤ n) (hn : n ≤ 12) (hblk : blk < w.heap.size) :
    Calls Tryz.prog 120 #[.agg #[.func (.func g) #[] lb, .func (.func sf) #[] sb], .int .i64 a, .int .i64 b] w fun e w' => e = .returned (.tuple #[]) ∧ R (Sort.insertionSort ltQ d a b) w' := by
  obtain ⟨W1, hW1⟩ : ∃ X, X = w.alloc (.cells #[.func (.func g) #[] lb, .func (.func sf) #[] sb] 146) := ⟨_, rfl⟩
  have HD : At W1 w.heap.size [.func (.func g) #[] lb, .func (.func sf) #[] sb] := by rw [hW1]; exact at_new0 _ _ _
  have HR : Hid (R d W1) := hW1 ▸ S.alloc _ _ _ h
  have HW := khide hW1
  have HS := khide S
  obtain ⟨db, hdb⟩ : ∃ db, db = w.heap.size := ⟨_, rfl⟩
  have hne : db ≠ blk := by omega
  rw [← hdb] at HD
  clear hW1 h S
  go_enter Tryz.func120, Tryz.ntmps120
  go_upto_region 1 with fail
  rw [← HW.out, ← hdb]
  clear hdb
  go_wp2_with fail
  go_loopw [6] (fun vi wr => ∃ (i : Nat) (dk : Array AL), vi = .int .i64 i ∧ a < i ∧ i ≤ b + 1 ∧ dk.size = n ∧ Hid (R dk wr) ∧ Hid (At wr db [.func (.func g) #[] lb, .func (.func sf) #[] sb]) ∧ Hid (Sort.insOuter ltQ a b i dk = Sort.insOuter ltQ a b (a + 1) d)) (fun vi _ => b + 1 - (intOf vi).toNat)
  case atStart => exact ⟨a + 1, d, by go_num, by omega, by omega, hs, HR, HD, rfl⟩
  case round =>
    clear HR HD
    obtain ⟨i, dk, rfl, hai, hib, hsk, HR, HD, HO⟩ := hrel
    by_cases hlt : i < b
    · have k0 : (i : Int) < (b : Int) := by omega
      go_wp2_with fail
      go_loopw [7] (fun vj wr2 => ∃ (j : Nat) (dj : Array AL), vj = .int .i64 j ∧ a ≤ j ∧ j ≤ i ∧ dj.size = n ∧ Hid (R dj wr2) ∧ Hid (At wr2 db [.func (.func g) #[] lb, .func (.func sf) #[] sb]) ∧ Hid (Sort.insInner ltQ a j dj = Sort.insInner ltQ a i dk)) (fun vj _ => (intOf vj).toNat)
      case atStart => exact ⟨i, dk, rfl, by omega, Nat.le_refl _, hsk, HR, HD, rfl⟩
      case round =>
        clear HR HD
        obtain ⟨j, dj, rfl, haj, hji, hsj, HR, HD, HI⟩ := hrel
        have hd_0 := HD.out.c0; have hd_l := HD.out.lt
        have OUT : Hid ((j ≤ a ∨ ltQ dj[j]! dj[j - 1]! = false) → Sort.insOuter ltQ a b (i + 1) dj = Sort.insOuter ltQ a b (a + 1) d) := fun hx => by
          rw [← HO.out, insOuter_go _ _ _ _ _ hlt, ← HI.out, insInner_stop _ _ _ _ hx]
        by_cases hja : a < j
        · have k1 : (a : Int) < (j : Int) := by omega
          have hl := HS.out.less dj _ HR.out hsj j (j - 1) (by omega) (by omega)
          rw [show (((j - 1 : Nat) : Int)) = (j : Int) - 1 by omega] at hl
          cases hlv : ltQ dj[j]! dj[j - 1]! with
          | true =>
            rw [hlv] at hl
            go_wp2_with (go_at_fn g; refine hl.mono ?_; rintro e wx ⟨rfl, hbel, hR'⟩; replace HD := khide (HD.out.up hbel.hid); clear hd_0 hd_l; have hd_1 := HD.out.c1; have hd_l := HD.out.lt)
            obtain ⟨W', hsw, hR2, hfar⟩ := HS.out.swap (by omega) dj _ hR' hsj j (j - 1) (by omega) (by omega)
            rw [show (((j - 1 : Nat) : Int)) = (j : Int) - 1 by omega] at hsw
            rw [hsw, Oper.upon_value]
            have HD2 : Hid (At W' db [.func (.func g) #[] lb, .func (.func sf) #[] sb]) := hfar _ _ hne HD.out
            have HR2 : Hid (R (Sort.swp dj j (j - 1)) W') := hR2
            clear hR2 hR' hfar hsw hl
            go_wp2_with fail
            go_roundw
            case rel => exact ⟨j - 1, Sort.swp dj j (j - 1), by congr 1 <;> omega, by omega, by omega, by rw [Sort.size_swp]; exact hsj, HR2, HD2, khide (by rw [← HI.out, insInner_go ltQ a j dj hja hlv])⟩
            case measure => simp [intOf]; omega
          | false =>
            rw [hlv] at hl
            go_wp2_with (go_at_fn g; refine hl.mono ?_; rintro e wx ⟨rfl, hbel, hR'⟩; replace HD := khide (HD.out.up hbel.hid))
            go_roundw
            case rel => exact ⟨i + 1, dj, by go_num, by omega, by omega, hsj, hR', HD, khide (OUT.out (Or.inr hlv))⟩
            case measure => simp [intOf]; omega
        · have k1 : ¬ (a : Int) < (j : Int) := by omega
          go_wp2_with fail
          go_roundw
          case rel => exact ⟨i + 1, dj, by go_num, by omega, by omega, hsj, HR, HD, khide (OUT.out (Or.inl (by omega)))⟩
          case measure => simp [intOf]; omega
    · have k0 : ¬ (i : Int) < (b : Int) := by omega
      go_wp2_with fail
      go_end0
      exact ⟨rfl, by unfold Sort.insertionSort; rw [← HO.out, insOuter_stop _ _ _ _ _ hlt]; exact HR.out⟩
end Go.Proofs.YthdpojkeceoiiaaGreatDoor
end

section
/- sort.Slice of few atoms. Conditions: at most 12. -/
open Go.RowKit
set_option maxRecDepth 100000
namespace Go.Proofs.YthdpojkeceoiiaaGreatDoor
set_option maxHeartbeats 4000000 in
theorem len64_any (n : Nat) (hn : n ≤ 12) (w : World) : Calls Tryz.prog 119 #[.int .u64 (n : Int)] w fun e w' => (∃ z : Int, e = .returned (.int .i64 z)) ∧ w = w' := by
  have h9 : n = 0 ∨ n = 1 ∨ n = 2 ∨ n = 3 ∨ n = 4 ∨ n = 5 ∨ n = 6 ∨ n = 7 ∨ n = 8 ∨ n = 9 ∨ n = 10 ∨ n = 11 ∨ n = 12 := by omega
  rcases h9 with rfl | rfl | rfl | rfl | rfl | rfl | rfl | rfl | rfl | rfl | rfl | rfl | rfl <;>
  · go_enter Tryz.func119, Tryz.ntmps119
    go_wp2
    go_ret
    exact ⟨⟨_, rfl⟩, rfl⟩
theorem len_any (n : Nat) (hn : n ≤ 12) (w : World) : Calls Tryz.prog 83 #[.int .u64 (n : Int)] w fun e w' => (∃ z : Int, e = .returned (.int .i64 z)) ∧ w = w' := by
  go_enter Tryz.func83, Tryz.ntmps83
  go_wp2_with (go_at_call 119; (with_reducible refine (len64_any n hn _).mono ?_); rintro e w' ⟨⟨z, rfl⟩, rfl⟩)
  go_ret
  exact ⟨⟨_, rfl⟩, rfl⟩
set_option maxHeartbeats 4000000 in
theorem pdq_any {g sf n blk : Nat} {lb sb : Array Value} {R : Array AL → World → Prop} (S : Sorts g lb sf sb n blk R) (eg : ∀ args w, (callFunc g args).run Tryz.prog w = .ok (.enter g args) w) {d : Array AL} {w : World} (lim : Int) (h : R d w) (hs : d.size = n) (hn : n ≤ 12) (hblk : blk < w.heap.size) :
    Calls Tryz.prog 84 #[.agg #[.func (.func g) #[] lb, .func (.func sf) #[] sb], .int .i64 0, .int .i64 n, .int .i64 lim] w fun e w' => e = .returned (.tuple #[]) ∧ R (Sort.insertionSort ltQ d 0 n) w' := by
  obtain ⟨W1, hW1⟩ : ∃ X, X = w.alloc (.cells #[.func (.func g) #[] lb, .func (.func sf) #[] sb] 146) := ⟨_, rfl⟩
  have HD : At W1 w.heap.size [.func (.func g) #[] lb, .func (.func sf) #[] sb] := by rw [hW1]; exact at_new0 _ _ _
  have HR : R d W1 := hW1 ▸ S.alloc _ _ _ h
  have hsz : w.heap.size < W1.heap.size := HD.lt
  have hi : Calls Tryz.prog 120 #[.agg #[.func (.func g) #[] lb, .func (.func sf) #[] sb], .int .i64 (0 : Nat), .int .i64 n] W1 fun e w' => e = .returned (.tuple #[]) ∧ R (Sort.insertionSort ltQ d 0 n) w' := insSort_any S eg HR hs (Nat.zero_le _) (Nat.le_refl _) hn (by omega)
  rw [show ((0 : Nat) : Int) = 0 from rfl] at hi
  have HI := khide hi
  have HW := khide hW1
  have e120 : ∀ args w, (callFunc 120 args).run Tryz.prog w = .ok (.enter 120 args) w := enters_of Tryz.func120 (by kernel_rfl) rfl
  obtain ⟨db, hdb⟩ : ∃ db, db = w.heap.size := ⟨_, rfl⟩
  rw [← hdb] at HD
  have hd_0 := HD.c0; have hd_1 := HD.c1; have hd_l := HD.lt
  have k1 : (n : Int) ≤ 12 := by omega
  clear hW1 h S HR hi hsz hs eg
  go_enter Tryz.func84, Tryz.ntmps84
  go_upto_region 1 with fail
  rw [← HW.out, ← hdb]
  clear hdb
  go_wp2_with fail
  refine wp_loop_rounds 1 ?_
  rw [rounds_succ]
  go_wp2_with (go_at_fn 120; refine HI.out.mono ?_; rintro e w' ⟨rfl, hR⟩)
  (try simp only [Exit.inBlock, Exit.then]); refine bodyPost_ret (results_none rfl _ _ _) rfl ?_
  exact ⟨rfl, hR⟩
noncomputable def atomsT : TypeInfo := (Tryz.prog.info? 36).get (by kernel_rfl)
noncomputable def atomE : TypeInfo := (Tryz.prog.info? 59).get (by kernel_rfl)
/-- Which literal Swapper hands back. -/
def swF (n : Nat) : Nat := if n = 0 then 109 else if n = 1 then 110 else 117
noncomputable def swB (A : Option Addr) (n c : Nat) : Array Value := if n ≤ 1 then #[] else #[.slice A n c, typeHandle Tryz.prog 59]
theorem swK (n : Nat) : Lib.swapperK n atomE 25 = if n = 0 then 1 else if n = 1 then 2 else 9 := by
  have a : atomE.hasPointers = true := by kernel_rfl
  have b : atomE.bytes = 40 := by kernel_rfl
  by_cases h0 : n = 0
  · subst h0; simp [Lib.swapperK]
  · by_cases h1 : n = 1
    · subst h1; simp [Lib.swapperK]
    · simp [Lib.swapperK, a, b, h0, h1]
theorem swF_at (n : Nat) : Tryz.prog.funcs.findIdx? (·.name == "internal/reflectlite" ++ ".Swapper$" ++ toString (Lib.swapperK n atomE 25)) = some (swF n) := by
  rw [swK]
  unfold swF
  by_cases h0 : n = 0
  · rw [if_pos h0, if_pos h0]; kernel_rfl
  · rw [if_neg h0, if_neg h0]
    by_cases h1 : n = 1
    · rw [if_pos h1, if_pos h1]; kernel_rfl
    · rw [if_neg h1, if_neg h1]; kernel_rfl
theorem swB_at (A : Option Addr) (n c : Nat) : (if Lib.swapperK n atomE 25 ≤ 2 then #[] else #[Value.slice A n c, typeHandle Tryz.prog 59]) = swB A n c := by
  rw [swK]
  unfold swB
  by_cases h0 : n = 0
  · subst h0; rfl
  · by_cases h1 : n = 1
    · subst h1; rfl
    · rw [if_neg h0, if_neg h1, if_neg (show ¬ 9 ≤ 2 by omega), if_neg (show ¬ n ≤ 1 by omega)]
end Go.Proofs.YthdpojkeceoiiaaGreatDoor
end

section
/- slices.Clone of atoms; a row of atoms as the sort's kit has it. Conditions: lists that fit. -/
open Go.RowKit
set_option maxRecDepth 100000
namespace Go.Proofs.YthdpojkeceoiiaaGreatDoor
/-- A row of atoms that a call hands back and the caller owns. -/
def RetCs (W : World) (l : List AL) (e : Ending) (w' : World) : Prop := ∃ A n c, n = l.length ∧ e = .returned (.slice A n c) ∧ Hid (w'.ownsRow W.heap.size 59 3 (.slice A n c) n (cellsA l)) ∧ Hid (Below W.heap.size W w')
theorem cellsA_one : ∀ (l : List AL), ∀ u ∈ cellsA l, u.oneCell' = true
  | [], u, h => by cases h
  | a :: l, u, h => by
    rcases List.mem_append.1 (show u ∈ cellA a ++ cellsA l from h) with h | h
    · simp [cellA] at h; rcases h with rfl | rfl | rfl <;> rfl
    · exact cellsA_one l u h
set_option maxHeartbeats 2000000 in
theorem clone_any {W : World} {A : Option Addr} {n c : Nat} {l : List AL} (h : Cs W A (cellsA l)) (hn : n = l.length) (hN : n ≤ 1000000) :
    Calls Tryz.prog 51 #[.slice A n c] W (RetCs W l) := by
  have q : ∀ (w : World) (a : Option Addr) (n c n' c' : Nat), (binOp .eql 36 (.slice a n c) (.slice none n' c')).run Tryz.prog w = .ok (.bool a.isNone) w := fun w a n c n' c' => Lib.run_eql_slice_nil w _ _ a n c n' c' Tryz.underlying36
  cases A with
  | none =>
    have h0 : l = [] := by
      rcases Nat.eq_zero_or_pos l.length with h0 | h0
      · exact List.eq_nil_of_length_eq_zero h0
      · obtain ⟨ad, e, _⟩ := h.out (by rw [cellsA_len]; omega)
        cases e
    subst h0
    clear h hn
    go_enter Tryz.func51, Tryz.ntmps51
    go_wp2
    go_ret
    exact ⟨none, 0, 0, rfl, rfl, World.ownsRow_nil _ _ _ _, Below.refl _ _⟩
  | some ad =>
    have hb : 0 < n → ad.block < W.heap.size := fun h0 => by
      obtain ⟨ad', e, hb, _⟩ := h.out (by rw [cellsA_len]; omega)
      cases e; exact hb
    have hc : ∀ (j : Nat) (v : Value), (cellsA l)[j]? = some v → W.cell? (ad.add j) = some v ∧ ad.block < W.heap.size := fun j v hj => by
      have hl : j < (cellsA l).length := (List.getElem?_eq_some_iff.1 hj).1
      obtain ⟨ad', e, hb, hc⟩ := h.out (by omega)
      cases e; exact ⟨hc j v hj, hb⟩
    obtain ⟨i0, hi, hz0, hz1, hz2⟩ := info_parts infoAtomP
    have HC := khide hc
    have HNN := khide hn
    have J0 := khide hi; have Y0 := khide hz0; have Y1 := khide hz1; have Y2 := khide hz2
    clear hc hn hb hi hz0 hz1 hz2 h
    go_enter Tryz.func51, Tryz.ntmps51
    go_wp2_with (at_builtin; refine wpList_append_own _ rfl _ _ 36 rfl W.heap.size 59 i0 (.agg #[.string ByteArray.empty, .string ByteArray.empty, .int .i64 0]) 3 40 Tryz.underlying36 J0.out Y0.out Y1.out Y2.out rfl (by decide) _ _ _ rfl (World.ownsRow_made W #[] 0 (Nat.le_refl _) (Nat.zero_le _) rfl) ad n c (cellsA l) rfl ?qc1 ?qc2 ?qc3 ?qc4 ?qc5 ?qc6 ?_)
    case qc1 => rw [cellsA_len, ← HNN.out]
    case qc2 =>
      intro j u hj
      obtain ⟨h1, h2⟩ := HC.out j u hj
      rw [World.cell?_alloc_lt W _ _ (by rw [yblock_add]; exact h2)]
      exact h1
    case qc3 => exact cellsA_one l
    case qc4 => unfold maxLen; omega
    case qc5 => omega
    case qc6 => simp
    intro v' w1 hown hgrow hnil
    have hown2 : w1.ownsRow W.heap.size 59 3 v' n (cellsA l) := by simpa using hown
    obtain ⟨A', cap, rfl, _⟩ := own_slice hown2
    go_wp2
    go_ret
    exact ⟨A', n, cap, HNN.out, rfl, hown2, ((Below.refl _ W).alloc (Nat.le_refl _) _).grown hgrow (by simp) (by intro k hk; simp [Value.ownBlock] at hk; omega)⟩
/-- A row of atoms in block g, as the sort's kit has it. -/
abbrev HK (W : World) (g : Nat) (d : Array AL) : Prop := Sort.HoldsK cellA 3 W g 0 d
theorem cellA_len (a : AL) : (cellA a).length = 3 := rfl
theorem flat_cells (d : Array AL) (t : Nat) (h : t < d.size * 3) : (cellsA d.toList)[t]? = some (Sort.flatK cellA 3 d)[t]! := by
  rw [Sort.get_flatK _ _ _ _ h]
  have hq : t / 3 < d.size := by omega
  have hd : d.toList[t / 3]? = some d[t / 3]! := by
    rw [Array.getElem?_toList, Array.getElem?_eq_getElem hq, getElem!_pos d _ hq]
  obtain ⟨c0, c1, c2⟩ := cellsA_get hd
  have e : t = t / 3 * 3 + t % 3 := by omega
  have h3 : t % 3 = 0 ∨ t % 3 = 1 ∨ t % 3 = 2 := by omega
  rcases h3 with h3 | h3 | h3
  · rw [h3]; rw [h3] at e; rw [e]; rw [show (t / 3 * 3 + 0) / 3 = t / 3 by omega]; exact c0
  · rw [h3]; rw [h3] at e; rw [e]; rw [show (t / 3 * 3 + 1) / 3 = t / 3 by omega]; exact c1
  · rw [h3]; rw [h3] at e; rw [e]; rw [show (t / 3 * 3 + 2) / 3 = t / 3 by omega]; exact c2
theorem hk_at {W : World} {g : Nat} {d : Array AL} (h : HK W g d) (i : Nat) (v : Value) (hv : (cellsA d.toList)[i]? = some v) : W.cell? ⟨g, i, none⟩ = some v ∧ W.frozen? ⟨g, i, none⟩ = false := by
  have hl : i < d.size * 3 := by
    have := (List.getElem?_eq_some_iff.1 hv).1
    rw [cellsA_len] at this
    simpa using this
  rw [flat_cells d i hl] at hv
  injection hv with hv
  have := h i (by simpa using hl)
  rw [Nat.zero_add] at this
  exact ⟨by rw [← hv]; exact this.1, this.2⟩
theorem hk_of {W : World} {g : Nat} {d : Array AL} (h : At W g (cellsA d.toList)) : HK W g d := fun t ht => by
  have hl : t < d.size * 3 := by simpa using ht
  rw [Nat.zero_add]
  exact h.all t _ (flat_cells d t hl)
theorem at_of_own {W : World} {base n c g : Nat} {xs : List Value} {e : TypeId} {s : Nat} (h : W.ownsRow base e s (.slice (some ⟨g, 0, none⟩) n c) n xs) : At W g xs ∧ base ≤ g := by
  rcases h.2 with ⟨h0, _⟩ | ⟨g', cap, cur, h0, hb, hg, h3, h4, h5, h6⟩
  · cases h0
  · cases h0
    refine ⟨⟨(Array.getElem?_eq_some_iff.1 hg).1, fun i v hv => ⟨?_, by unfold World.frozen?; rw [hg]; simp⟩⟩, hb⟩
    rw [cell_of_row _ _ i _ e (0, 0) hg]
    rw [← h6, List.getElem?_take] at hv
    split at hv
    · rw [Array.getElem?_toList] at hv; exact hv
    · cases hv
end Go.Proofs.YthdpojkeceoiiaaGreatDoor
end

section
/- Contracts of strings.Join, Index, Count and genSplit at this dump, laid by the shelf's command in plain words. Conditions: as each says. -/
namespace Go.Proofs
open Go.Shelf
def Tryz.laysGg6_ren : Go.Shelf.Ren := ⟨fun | 6 => 52 | 10 => 80 | 11 => 81 | 12 => 82 | 13 => 83 | 14 => 84 | 24 => 118 | 25 => 119 | 26 => 120 | 27 => 121 | 28 => 122 | 29 => 123 | 30 => 124 | 31 => 125 | 32 => 126 | 33 => 127 | 34 => 144 | 35 => 145 | 36 => 146 | 37 => 147 | 38 => 148 | 39 => 160 | n => n, fun | 20 => 20 | 26 => 100 | 35 => 138 | 0 => 0 | 37 => 140 | 3 => 3 | 41 => 92 | 44 => 146 | 49 => 73 | 51 => 57 | 4 => 4 | 54 => 175 | 53 => 174 | 58 => 164 | 5 => 5 | 9 => 9 | 60 => 191 | 64 => 195 | 66 => 206 | 67 => 162 | 17 => 17 | 32 => 135 | 33 => 136 | 82 => 232 | 12 => 12 | 75 => 226 | 76 => 227 | 77 => 228 | 78 => 150 | 79 => 229 | 80 => 230 | n => n, fun | n => n⟩
theorem Tryz.laysGg6 : Go.Proofs.LaysGg.n6 Tryz.prog Tryz.laysGg6_ren := {
  mixed := by kernel_rfl
  f6 := Tryz.func52.trans (congrArg some (by kernel_rfl))
  f10 := Tryz.func80.trans (congrArg some (by kernel_rfl))
  f11 := Tryz.func81.trans (congrArg some (by kernel_rfl))
  f12 := Tryz.func82.trans (congrArg some (by kernel_rfl))
  f13 := Tryz.func83.trans (congrArg some (by kernel_rfl))
  f14 := Tryz.func84.trans (congrArg some (by kernel_rfl))
  f24 := Tryz.func118.trans (congrArg some (by kernel_rfl))
  f25 := Tryz.func119.trans (congrArg some (by kernel_rfl))
  f26 := Tryz.func120.trans (congrArg some (by kernel_rfl))
  f27 := Tryz.func121.trans (congrArg some (by kernel_rfl))
  f28 := Tryz.func122.trans (congrArg some (by kernel_rfl))
  f29 := Tryz.func123.trans (congrArg some (by kernel_rfl))
  f30 := Tryz.func124.trans (congrArg some (by kernel_rfl))
  f31 := Tryz.func125.trans (congrArg some (by kernel_rfl))
  f32 := Tryz.func126.trans (congrArg some (by kernel_rfl))
  f33 := Tryz.func127.trans (congrArg some (by kernel_rfl))
  f34 := Tryz.func144.trans (congrArg some (by kernel_rfl))
  f35 := Tryz.func145.trans (congrArg some (by kernel_rfl))
  f36 := Tryz.func146.trans (congrArg some (by kernel_rfl))
  f37 := Tryz.func147.trans (congrArg some (by kernel_rfl))
  f38 := Tryz.func148.trans (congrArg some (by kernel_rfl))
  f39 := Tryz.func160.trans (congrArg some (by kernel_rfl))
  t0 := Tryz.underlying0
  a0 := Tryz.isAgg0
  z0 := Tryz.sizeOf0
  v0 := Tryz.zeroValue0
  i0 := by kernel_rfl
  t3 := Tryz.underlying3
  a3 := Tryz.isAgg3
  z3 := Tryz.sizeOf3
  v3 := Tryz.zeroValue3
  i3 := by kernel_rfl
  t4 := Tryz.underlying4
  a4 := Tryz.isAgg4
  z4 := Tryz.sizeOf4
  v4 := Tryz.zeroValue4
  i4 := by kernel_rfl
  t5 := Tryz.underlying5
  a5 := Tryz.isAgg5
  z5 := Tryz.sizeOf5
  v5 := Tryz.zeroValue5
  i5 := by kernel_rfl
  t9 := Tryz.underlying9
  a9 := Tryz.isAgg9
  z9 := Tryz.sizeOf9
  v9 := Tryz.zeroValue9
  i9 := by kernel_rfl
  t12 := Tryz.underlying12
  a12 := Tryz.isAgg12
  z12 := Tryz.sizeOf12
  v12 := Tryz.zeroValue12
  i12 := by kernel_rfl
  t17 := Tryz.underlying17
  a17 := Tryz.isAgg17
  z17 := Tryz.sizeOf17
  v17 := Tryz.zeroValue17
  i17 := by kernel_rfl
  t20 := Tryz.underlying20
  a20 := Tryz.isAgg20
  z20 := Tryz.sizeOf20
  v20 := Tryz.zeroValue20
  i20 := by kernel_rfl
  t26 := Tryz.underlying100
  a26 := Tryz.isAgg100
  z26 := Tryz.sizeOf100
  v26 := Tryz.zeroValue100
  i26 := by kernel_rfl
  t32 := Tryz.underlying135
  a32 := Tryz.isAgg135
  z32 := Tryz.sizeOf135
  v32 := Tryz.zeroValue135
  i32 := by kernel_rfl
  t33 := Tryz.underlying136
  a33 := Tryz.isAgg136
  z33 := Tryz.sizeOf136
  v33 := Tryz.zeroValue136
  i33 := by kernel_rfl
  t35 := Tryz.underlying138
  a35 := Tryz.isAgg138
  z35 := Tryz.sizeOf138
  v35 := Tryz.zeroValue138
  i35 := by kernel_rfl
  t37 := Tryz.underlying140
  a37 := Tryz.isAgg140
  z37 := Tryz.sizeOf140
  v37 := Tryz.zeroValue140
  i37 := by kernel_rfl
  t41 := Tryz.underlying92
  a41 := Tryz.isAgg92
  z41 := Tryz.sizeOf92
  v41 := Tryz.zeroValue92
  i41 := by kernel_rfl
  t44 := Tryz.underlying146
  a44 := Tryz.isAgg146
  z44 := Tryz.sizeOf146
  v44 := Tryz.zeroValue146
  i44 := by kernel_rfl
  t49 := Tryz.underlying73
  a49 := Tryz.isAgg73
  z49 := Tryz.sizeOf73
  v49 := Tryz.zeroValue73
  i49 := by kernel_rfl
  t51 := Tryz.underlying57
  a51 := Tryz.isAgg57
  z51 := Tryz.sizeOf57
  v51 := Tryz.zeroValue57
  i51 := by kernel_rfl
  t53 := Tryz.underlying174
  a53 := Tryz.isAgg174
  z53 := Tryz.sizeOf174
  v53 := Tryz.zeroValue174
  i53 := by kernel_rfl
  t54 := Tryz.underlying175
  a54 := Tryz.isAgg175
  z54 := Tryz.sizeOf175
  v54 := Tryz.zeroValue175
  i54 := by kernel_rfl
  t58 := Tryz.underlying164
  a58 := Tryz.isAgg164
  z58 := Tryz.sizeOf164
  v58 := Tryz.zeroValue164
  i58 := by kernel_rfl
  t60 := Tryz.underlying191
  a60 := Tryz.isAgg191
  z60 := Tryz.sizeOf191
  v60 := Tryz.zeroValue191
  i60 := by kernel_rfl
  t64 := Tryz.underlying195
  a64 := Tryz.isAgg195
  z64 := Tryz.sizeOf195
  v64 := Tryz.zeroValue195
  i64 := by kernel_rfl
  t66 := Tryz.underlying206
  a66 := Tryz.isAgg206
  z66 := Tryz.sizeOf206
  v66 := Tryz.zeroValue206
  i66 := by kernel_rfl
  t67 := Tryz.underlying162
  a67 := Tryz.isAgg162
  z67 := Tryz.sizeOf162
  v67 := Tryz.zeroValue162
  i67 := by kernel_rfl
  t75 := Tryz.underlying226
  a75 := Tryz.isAgg226
  z75 := Tryz.sizeOf226
  v75 := Tryz.zeroValue226
  i75 := by kernel_rfl
  t76 := Tryz.underlying227
  a76 := Tryz.isAgg227
  z76 := Tryz.sizeOf227
  v76 := Tryz.zeroValue227
  i76 := by kernel_rfl
  t77 := Tryz.underlying228
  a77 := Tryz.isAgg228
  z77 := Tryz.sizeOf228
  v77 := Tryz.zeroValue228
  i77 := by kernel_rfl
  t78 := Tryz.underlying150
  a78 := Tryz.isAgg150
  z78 := Tryz.sizeOf150
  v78 := Tryz.zeroValue150
  i78 := by kernel_rfl
  t79 := Tryz.underlying229
  a79 := Tryz.isAgg229
  z79 := Tryz.sizeOf229
  v79 := Tryz.zeroValue229
  i79 := by kernel_rfl
  t80 := Tryz.underlying230
  a80 := Tryz.isAgg230
  z80 := Tryz.sizeOf230
  v80 := Tryz.zeroValue230
  i80 := by kernel_rfl
  t82 := Tryz.underlying232
  a82 := Tryz.isAgg232
  z82 := Tryz.sizeOf232
  v82 := Tryz.zeroValue232
  i82 := by kernel_rfl }
end Go.Proofs
end
