/- Several texts in one, each with its own sentence and conditions. -/
import Derived.Test.YthdpojkeceoiiaaGreatDoorGOkc17
import Derived.Test.YthdpojkeceoiiaaGreatDoorGOkc2
import Derived.Laws.AppendOwnNone
section
/- The document's own atoms: the walk. Conditions: texts and lists that fit. -/
open Go.RowKit
set_option maxRecDepth 100000
namespace Go.Proofs.YthdpojkeceoiiaaGreatDoor
theorem at_news {W : World} {b : Nat} {xs : List Value} (h : At W b xs) : ∀ j u, xs[j]? = some u → W.cell? ((⟨b, 0, none⟩ : Addr).add j) = some u := fun j u hu => by
  have e : (⟨b, 0, none⟩ : Addr).add j = ⟨b, j, none⟩ := by unfold Addr.add; split <;> simp_all
  rw [e]; exact At.ci h hu
theorem cellA_one (a : AL) : ∀ u ∈ cellA a, u.oneCell' = true := by
  intro u hu
  simp only [cellA, List.mem_cons, List.not_mem_nil, or_false] at hu
  rcases hu with rfl | rfl | rfl <;> rfl
set_option maxHeartbeats 4000000 in
theorem ratoms_any {A B D : Option Addr} {n c m d j g : Nat} {names ps l : List ByteArray} {w : World} (h : Ss w A names) (hn : n = names.length) (hl : n ≤ 1000000) (h' : Ss w B ps) (hm : m = ps.length) (hl' : m ≤ 1000000) (h2 : Ss w D l) (hj : j = l.length) (hjg : j ≤ g) (hjl : j ≤ 1000000) (hu : ∀ x ∈ l, x.size ≤ 2000000) (hps : ∀ x ∈ ps, x.size ≤ 2000000) {res : Option (List AL)} (hres : atomsL names ps l = res) :
    Calls Tryz.prog 69 #[.agg #[.slice A n c, .slice B m d], .slice D j g] w (AtomsR w res) := by
  obtain ⟨W1, hW1⟩ : ∃ X, X = w.alloc (.cells #[.slice A n c, .slice B m d] 48) := ⟨_, rfl⟩
  have HA : At W1 w.heap.size [.slice A n c, .slice B m d] := by rw [hW1]; exact at_new0 _ _ _
  have HBW : Bel w W1 := by rw [hW1]; exact (Bel.refl w).al _
  have CP : Hid (∀ (W : World) (D : Option Addr) (j' g' k : Nat), Bel w W → Ss W D (l.drop k) → j' = l.length - k → Calls Tryz.prog 96 #[.agg #[.slice A n c, .slice B m d], .slice D j' g'] W (PRes W (parseA names ps (l.drop k)))) := fun W D j' g' k hb hd hk =>
    rparse_any (h.up hb.hid) hn hl (h'.up hb.hid) hm hl' hd (by rw [List.length_drop]; exact hk) (fun x hx => hu x (List.mem_of_mem_drop hx)) hps
  have HW := khide hW1
  have HD2 : Ss W1 D l := h2.up (by rw [hW1]; exact (Below.refl _ _).alloc (Nat.le_refl _) _)
  have HN := khide hj
  have HR : Hid (res = combA [] (atomsL names ps (l.drop 0))) := by rw [combA_start, ← hres]; rfl
  obtain ⟨i0, hi, hz0, hz1, hz2⟩ := info_parts infoAtomC
  have J0 := khide hi; have Y0 := khide hz0; have Y1 := khide hz1; have Y2 := khide hz2
  clear hi hz0 hz1 hz2 hW1 hj hres h h' h2 hu hps hn hm hl hl'
  go_enter Tryz.func69, Tryz.ntmps69
  go_upto_region 1 with fail
  rw [← HW.out]
  go_wp2_with fail
  go_loopw [1, 6] (fun lv rv wr => ∃ (k j' g' cp : Nat) (D' R : Option Addr) (acc : List AL), lv = .slice D' j' g' ∧ rv = .slice R acc.length cp ∧ j' + k = j ∧ acc.length ≤ k ∧ j' ≤ g' ∧ Hid (Ss W1 D' (l.drop k)) ∧ Hid (res = combA acc (atomsL names ps (l.drop k))) ∧
    Hid (wr.ownsRow W1.heap.size 125 3 (.slice R acc.length cp) acc.length (cellsA acc)) ∧ Hid (Below W1.heap.size W1 wr)) (fun lv _ _ => match lv with | .slice _ j _ => j | _ => 0)
  case atStart => exact ⟨0, j, g, 0, D, none, [], rfl, rfl, rfl, Nat.le_refl _, hjg, HD2, HR.out, World.ownsRow_nil _ _ _ _, Below.refl _ _⟩
  case round =>
    obtain ⟨k, j', g', cp, D', R, acc, rfl, rfl, hjk, hacc, hjg', HS, HC, HO, HB⟩ := hrel
    have HAR := HA.up HB
    have HBS : Hid (W1.heap.size ≤ wr.heap.size) := HB.out.size
    have hBR : Hid (Bel w wr) := HBW.up HB
    have ha_0 := HAR.c0; have ha_1 := HAR.c1; have ha_l := HAR.lt
    by_cases h0 : 0 < j'
    · obtain ⟨pa, hpa⟩ : ∃ x, parseA names ps (l.drop k) = x := ⟨_, rfl⟩
      obtain ⟨p, nm, pk, t, ok⟩ := pa
      have C1 : Hid (∀ q : Nat, Calls Tryz.prog 96 #[.agg #[.slice A n c, .slice B m d], .slice D' j' g'] (wr.drewN q) (PRes (wr.drewN q) ⟨p, nm, pk, t, ok⟩)) := fun q => by
        rw [← hpa]
        exact CP.out _ D' j' g' k (ybelow_drewN hBR.out q) ((HS.out.up HB).dn q) (by rw [← HN.out]; omega)
      have C0 : Hid (Calls Tryz.prog 96 #[.agg #[.slice A n c, .slice B m d], .slice D' j' g'] wr (PRes wr ⟨p, nm, pk, t, ok⟩)) := C1.out 0
      have d0 : decide ((0 : Int) < (j' : Int)) = true := decide_eq_true (by omega)
      cases ok with
      | false =>
        have HV : Hid (res = none) := HC.out.trans (combA_bad (by rw [List.length_drop, ← HN.out]; omega) (by rw [hpa]))
        clear hpa
        go_wp2_with (first | (go_at_call 96; (with_reducible refine (C0.out).mono ?_); rintro e w2 ⟨rfl, hb2⟩) | fail)
        go_ret2
        rw [HV.out]
        exact ⟨rfl, ((hBR.out.up hb2.hid).al _)⟩
      | true =>
        have HV : Hid (res = combA (acc ++ [(p, nm, (pk : Int))]) (atomsL names ps (l.drop (k + t)))) := by
          have := HC.out.trans (combA_more hpa); rwa [List.drop_drop] at this
        have ht := parseA_t (names := names) (ps := ps) (l := l.drop k) (by rw [hpa])
        rw [hpa, List.length_drop, ← HN.out] at ht
        obtain ⟨t1, t2, t3⟩ := ht
        clear hpa
        go_wp2_with (first | (go_at_call 96; (with_reducible refine (C0.out).mono ?_); rintro e w2 ⟨rfl, hb2⟩) | (at_builtin; go_must (refine wpList_append_own _ rfl (.tmp 22) (.tmp 24) 84 rfl W1.heap.size 125 i0 (.agg #[.string ByteArray.empty, .string ByteArray.empty, .int .i64 0]) 3 40 Tryz.underlying84 J0.out Y0.out Y1.out Y2.out rfl (by decide) _ _ _ rfl (((own_up HO.out hb2.hid).alloc _).alloc _) ⟨w2.heap.size + 1, 0, none⟩ 1 1 (cellA (p, nm, (pk : Int))) rfl rfl (at_news (at_new1 _ _ _ _)) (cellA_one _) (by simp only [maxLen]; omega) (by omega) (Nat.le_trans HBS.out (Nat.le_trans hb2.size (by simp; omega))) ?_); intro v1 w3 ho1 hg1 hn1; clear hn1) | fail)
        have hg2 : ((w2.alloc (.cells #[.string p, .string nm, .int .i64 (pk : Int)] 125)).alloc (.cells #[.string p, .string nm, .int .i64 (pk : Int)] 125)).grownBy w3 (Value.slice R acc.length cp).ownBlock := hg1
        have HO2 := own_up HO.out hb2.hid
        have HB2 : Hid (Below W1.heap.size W1 w2) := HB.out.trans (hb2.mono HBS.out)
        have HB3 : Hid (Below W1.heap.size W1 w3) := ((HB2.out.alloc HB2.out.size _).alloc (HB2.out.alloc HB2.out.size _).size _).grown hg2 ((HB2.out.alloc HB2.out.size _).alloc (HB2.out.alloc HB2.out.size _).size _).size (fun g' e => (HO2.lt g' e).1)
        obtain ⟨R2, cp2, rfl, _⟩ := own_slice ho1
        have HS3 : Ss W1 (if g' = t then D' else Option.map (fun x => x.add t) D') (l.drop (k + t)) := by
          have := HS.out.sub (t := t) (g := g') (by rw [List.length_drop, ← HN.out]; omega)
          rwa [List.drop_drop] at this
        have HO3 := khide ho1
        clear hg1 hg2 ho1 HO2
        go_roundw
        case rel =>
          refine ⟨k + t, j' - t, g' - t, cp2, _, R2, acc ++ [(p, nm, (pk : Int))], rfl, by simp, by omega, by simp; omega, by omega, HS3, HV, ?_, HB3⟩
          rw [cellsA_snoc]
          unfold Hid
          simpa using HO3.out
        case measure => show j' - t < j'; omega
    · obtain rfl : j' = 0 := by omega
      go_wp2
      go_ret2
      have e0 : l.drop k = [] := List.drop_eq_nil_of_le (by rw [← HN.out]; omega)
      have HV := HC.out
      rw [e0, atomsL_nil, combA_end] at HV
      rw [HV]
      refine ⟨R, cp, rfl, ?_, own_base HO.out HBW.size, hBR.out⟩
      obtain ⟨A1, c1, e1, h1⟩ := own_slice HO.out
      injection e1 with e2 _ e3
      subst e2; subst e3
      exact h1
end Go.Proofs.YthdpojkeceoiiaaGreatDoor
end

section
/- unit.parseAtoms. Conditions: texts and lists that fit. -/
open Go.RowKit
set_option maxRecDepth 100000
namespace Go.Proofs.YthdpojkeceoiiaaGreatDoor
theorem infoAtomP : (Tryz.prog.info? 59).map (fun i => (i.zero, i.size, i.bytes)) = some (some (.agg #[.string ByteArray.empty, .string ByteArray.empty, .int .i64 0]), 3, 40) := by kernel_rfl
/-- What a row of atoms comes to. -/
def AtomsP (W : World) (r : Option (List AL)) (e : Ending) (w' : World) : Prop := match r with
  | none => e = .returned (.tuple #[.slice none 0 0, .bool false]) ∧ Bel W w'
  | some l => ∃ A c, e = .returned (.tuple #[.slice A l.length c, .bool true]) ∧ (A = none → c = 0) ∧ Hid (w'.ownsRow W.heap.size 59 3 (.slice A l.length c) l.length (cellsA l)) ∧ Bel W w'
set_option maxHeartbeats 4000000 in
theorem patoms_any {A B D : Option Addr} {n c m d j g : Nat} {names ps l : List ByteArray} {w : World} (h : Ss w A names) (hn : n = names.length) (hl : n ≤ 1000000) (h' : Ss w B ps) (hm : m = ps.length) (hl' : m ≤ 1000000) (h2 : Ss w D l) (hj : j = l.length) (hjg : j ≤ g) (hjl : j ≤ 1000000) (hu : ∀ x ∈ l, x.size ≤ 140737488355328) {res : Option (List AL)} (hres : atomsL names ps l = res) :
    Calls Tryz.prog 49 #[.agg #[.slice A n c, .slice B m d], .slice D j g] w (AtomsP w res) := by
  obtain ⟨W1, hW1⟩ : ∃ X, X = w.alloc (.cells #[.slice A n c, .slice B m d] 31) := ⟨_, rfl⟩
  have HA : At W1 w.heap.size [.slice A n c, .slice B m d] := by rw [hW1]; exact at_new0 _ _ _
  have HBW : Bel w W1 := by rw [hW1]; exact (Bel.refl w).al _
  have CP : Hid (∀ (W : World) (D : Option Addr) (j' g' k : Nat), Bel w W → Ss W D (l.drop k) → j' = l.length - k → Calls Tryz.prog 77 #[.agg #[.slice A n c, .slice B m d], .slice D j' g'] W (PRes W (parseA names ps (l.drop k)))) := fun W D j' g' k hb hd hk =>
    parse_any (h.up hb.hid) hn hl (h'.up hb.hid) hm hl' hd (by rw [List.length_drop]; exact hk) (fun x hx => hu x (List.mem_of_mem_drop hx))
  have HW := khide hW1
  have HD2 : Ss W1 D l := h2.up (by rw [hW1]; exact (Below.refl _ _).alloc (Nat.le_refl _) _)
  have HN := khide hj
  have HR : Hid (res = combA [] (atomsL names ps (l.drop 0))) := by rw [combA_start, ← hres]; rfl
  obtain ⟨i0, hi, hz0, hz1, hz2⟩ := info_parts infoAtomP
  have J0 := khide hi; have Y0 := khide hz0; have Y1 := khide hz1; have Y2 := khide hz2
  clear hi hz0 hz1 hz2 hW1 hj hres h h' h2 hu hn hm hl hl'
  go_enter Tryz.func49, Tryz.ntmps49
  go_upto_region 1 with fail
  rw [← HW.out]
  go_wp2_with fail
  go_loopw [1, 6] (fun lv rv wr => ∃ (k j' g' cp : Nat) (D' R : Option Addr) (acc : List AL), lv = .slice D' j' g' ∧ rv = .slice R acc.length cp ∧ j' + k = j ∧ acc.length ≤ k ∧ j' ≤ g' ∧ Hid (Ss W1 D' (l.drop k)) ∧ Hid (res = combA acc (atomsL names ps (l.drop k))) ∧
    Hid (wr.ownsRow W1.heap.size 59 3 (.slice R acc.length cp) acc.length (cellsA acc)) ∧ Hid (Below W1.heap.size W1 wr)) (fun lv _ _ => match lv with | .slice _ j _ => j | _ => 0)
  case atStart => exact ⟨0, j, g, 0, D, none, [], rfl, rfl, rfl, Nat.le_refl _, hjg, HD2, HR.out, World.ownsRow_nil _ _ _ _, Below.refl _ _⟩
  case round =>
    obtain ⟨k, j', g', cp, D', R, acc, rfl, rfl, hjk, hacc, hjg', HS, HC, HO, HB⟩ := hrel
    have HAR := HA.up HB
    have HBS : Hid (W1.heap.size ≤ wr.heap.size) := HB.out.size
    have hBR : Hid (Bel w wr) := HBW.up HB
    have ha_0 := HAR.c0; have ha_1 := HAR.c1; have ha_l := HAR.lt
    by_cases h0 : 0 < j'
    · obtain ⟨pa, hpa⟩ : ∃ x, parseA names ps (l.drop k) = x := ⟨_, rfl⟩
      obtain ⟨p, nm, pk, t, ok⟩ := pa
      have C1 : Hid (∀ q : Nat, Calls Tryz.prog 77 #[.agg #[.slice A n c, .slice B m d], .slice D' j' g'] (wr.drewN q) (PRes (wr.drewN q) ⟨p, nm, pk, t, ok⟩)) := fun q => by
        rw [← hpa]
        exact CP.out _ D' j' g' k (ybelow_drewN hBR.out q) ((HS.out.up HB).dn q) (by rw [← HN.out]; omega)
      have C0 : Hid (Calls Tryz.prog 77 #[.agg #[.slice A n c, .slice B m d], .slice D' j' g'] wr (PRes wr ⟨p, nm, pk, t, ok⟩)) := C1.out 0
      have d0 : decide ((0 : Int) < (j' : Int)) = true := decide_eq_true (by omega)
      cases ok with
      | false =>
        have HV : Hid (res = none) := HC.out.trans (combA_bad (by rw [List.length_drop, ← HN.out]; omega) (by rw [hpa]))
        clear hpa
        go_wp2_with (first | (go_at_call 77; (with_reducible refine (C0.out).mono ?_); rintro e w2 ⟨rfl, hb2⟩) | fail)
        go_ret2
        rw [HV.out]
        exact ⟨rfl, ((hBR.out.up hb2.hid).al _)⟩
      | true =>
        have HV : Hid (res = combA (acc ++ [(p, nm, (pk : Int))]) (atomsL names ps (l.drop (k + t)))) := by
          have := HC.out.trans (combA_more hpa); rwa [List.drop_drop] at this
        have ht := parseA_t (names := names) (ps := ps) (l := l.drop k) (by rw [hpa])
        rw [hpa, List.length_drop, ← HN.out] at ht
        obtain ⟨t1, t2, t3⟩ := ht
        clear hpa
        go_wp2_with (first | (go_at_call 77; (with_reducible refine (C0.out).mono ?_); rintro e w2 ⟨rfl, hb2⟩) | (at_builtin; go_must (refine wpList_append_own _ rfl (.tmp 22) (.tmp 24) 36 rfl W1.heap.size 59 i0 (.agg #[.string ByteArray.empty, .string ByteArray.empty, .int .i64 0]) 3 40 Tryz.underlying36 J0.out Y0.out Y1.out Y2.out rfl (by decide) _ _ _ rfl (((own_up HO.out hb2.hid).alloc _).alloc _) ⟨w2.heap.size + 1, 0, none⟩ 1 1 (cellA (p, nm, (pk : Int))) rfl rfl (at_news (at_new1 _ _ _ _)) (cellA_one _) (by simp only [maxLen]; omega) (by omega) (Nat.le_trans HBS.out (Nat.le_trans hb2.size (by simp; omega))) ?_); intro v1 w3 ho1 hg1 hn1; clear hn1) | fail)
        have hg2 : ((w2.alloc (.cells #[.string p, .string nm, .int .i64 (pk : Int)] 59)).alloc (.cells #[.string p, .string nm, .int .i64 (pk : Int)] 59)).grownBy w3 (Value.slice R acc.length cp).ownBlock := hg1
        have HO2 := own_up HO.out hb2.hid
        have HB2 : Hid (Below W1.heap.size W1 w2) := HB.out.trans (hb2.mono HBS.out)
        have HB3 : Hid (Below W1.heap.size W1 w3) := ((HB2.out.alloc HB2.out.size _).alloc (HB2.out.alloc HB2.out.size _).size _).grown hg2 ((HB2.out.alloc HB2.out.size _).alloc (HB2.out.alloc HB2.out.size _).size _).size (fun g' e => (HO2.lt g' e).1)
        obtain ⟨R2, cp2, rfl, _⟩ := own_slice ho1
        have HS3 : Ss W1 (if g' = t then D' else Option.map (fun x => x.add t) D') (l.drop (k + t)) := by
          have := HS.out.sub (t := t) (g := g') (by rw [List.length_drop, ← HN.out]; omega)
          rwa [List.drop_drop] at this
        have HO3 := khide ho1
        clear hg1 hg2 ho1 HO2
        go_roundw
        case rel =>
          refine ⟨k + t, j' - t, g' - t, cp2, _, R2, acc ++ [(p, nm, (pk : Int))], rfl, by simp, by omega, by simp; omega, by omega, HS3, HV, ?_, HB3⟩
          rw [cellsA_snoc]
          unfold Hid
          simpa using HO3.out
        case measure => show j' - t < j'; omega
    · obtain rfl : j' = 0 := by omega
      go_wp2
      go_ret2
      have e0 : l.drop k = [] := List.drop_eq_nil_of_le (by rw [← HN.out]; omega)
      have HV := HC.out
      rw [e0, atomsL_nil, combA_end] at HV
      rw [HV]
      refine ⟨R, cp, rfl, ?_, own_base HO.out HBW.size, hBR.out⟩
      obtain ⟨A1, c1, e1, h1⟩ := own_slice HO.out
      injection e1 with e2 _ e3
      subst e2; subst e3
      exact h1
end Go.Proofs.YthdpojkeceoiiaaGreatDoor
end

section
/- The document's own showAtoms. Conditions: atoms that fit. -/
open Go.RowKit
set_option maxRecDepth 100000
namespace Go.Proofs.YthdpojkeceoiiaaGreatDoor
def showA (a : AL) : ByteArray := showB a.1 a.2.1 a.2.2
def showsA (l : List AL) : List ByteArray := l.map showA
/-- A row of strings that the call made. -/
def StrsO (W : World) (l : List ByteArray) (e : Ending) (w' : World) : Prop := ∃ A c, e = .returned (.slice A l.length c) ∧ (A = none → c = 0) ∧ Hid (l = [] → A = none ∧ c = 0) ∧ Hid (w'.ownsRow W.heap.size 9 1 (.slice A l.length c) l.length (l.map Value.string)) ∧ Bel W w'
theorem one_str (s : ByteArray) : ∀ u ∈ [Value.string s], u.oneCell' = true := by
  intro u hu
  simp only [List.mem_cons, List.not_mem_nil, or_false] at hu
  subst hu; rfl
theorem hinfoStr : (Tryz.prog.info? 9).map (fun i => (i.zero, i.size, i.bytes)) = some (some (.string ByteArray.empty), 1, 16) := by kernel_rfl
set_option maxHeartbeats 4000000 in
theorem rshows_any {A : Option Addr} {n c : Nat} {l : List AL} {w : World} (h : Cs w A (cellsA l)) (hn : n = l.length) (hl : n ≤ 1000000) (hs : ∀ a ∈ l, a.1.size ≤ 2000000 ∧ a.2.1.size ≤ 2000000) : Calls Tryz.prog 72 #[.slice A n c] w (StrsO w (showsA l)) := by
  have HN := khide hn
  have HS := khide hs
  obtain ⟨i0, hi, hz0, hz1, hz2⟩ := info_parts hinfoStr
  have J0 := khide hi; have Y0 := khide hz0; have Y1 := khide hz1; have Y2 := khide hz2
  clear hi hz0 hz1 hz2 hn hs
  go_enter Tryz.func72, Tryz.ntmps72
  go_wp2
  go_loopw [3, 4] (fun rv iv wr => ∃ (k cp : Nat) (R : Option Addr), k ≤ n ∧ iv = .int .i64 (k : Int) ∧ rv = .slice R k cp ∧ Hid (k = 0 → R = none ∧ cp = 0) ∧ Hid (wr.ownsRow w.heap.size 9 1 (.slice R k cp) k ((showsA (l.take k)).map Value.string)) ∧ Hid (Below w.heap.size w wr)) (fun _ iv _ => n - (intOf iv).toNat)
  case atStart => exact ⟨0, 0, none, Nat.zero_le _, rfl, rfl, fun _ => ⟨rfl, rfl⟩, World.ownsRow_nil _ _ _ _, Below.refl _ _⟩
  case round =>
    obtain ⟨k, cp, R, hk, rfl, rfl, HZ, HO, HB⟩ := hrel
    by_cases hlt : k < n
    · obtain ⟨a, ha⟩ : ∃ a, l[k]? = some a := ⟨l[k]'(by rw [← HN.out]; exact hlt), List.getElem?_eq_getElem _⟩
      obtain ⟨ad, rfl, had, a0, a1, a2⟩ := cs_at3 (h.up HB) ha
      obtain ⟨p, nm, pk⟩ := a
      have HSZ : Hid (p.size ≤ 2000000 ∧ nm.size ≤ 2000000) := HS.out _ (List.mem_of_getElem? ha)
      obtain ⟨s, hse⟩ : ∃ s, showB p nm pk = s := ⟨_, rfl⟩
      have C0 : Hid (Calls Tryz.prog 99 #[.agg #[.string p, .string nm, .int .i64 pk]] wr (StrR wr s)) := hse ▸ rshow_any HSZ.out wr
      have HX : Hid ((showsA (l.take (k + 1))).map Value.string = (showsA (l.take k)).map Value.string ++ [.string s]) := by
        obtain ⟨hx, hx2⟩ := List.getElem?_eq_some_iff.1 ha
        unfold Hid
        rw [List.take_succ_eq_append_getElem hx, hx2]
        unfold showsA
        rw [List.map_append, List.map_append]
        show _ ++ [Value.string (showB p nm pk)] = _
        rw [hse]
      have HBS : Hid (w.heap.size ≤ wr.heap.size) := HB.out.size
      have k0 : (0 : Int) ≤ (k : Int) := by omega
      have k1 : (k : Int) < (n : Int) := by omega
      clear ha hse
      go_wp2_with (first | (go_at_call 99; (with_reducible refine (C0.out).mono ?_); rintro e w2 ⟨rfl, hb2⟩) | (at_builtin; go_must (refine wpList_append_own _ rfl (.tmp 11) (.tmp 17) 23 rfl w.heap.size 9 i0 (.string ByteArray.empty) 1 16 Tryz.underlying23 J0.out Y0.out Y1.out Y2.out rfl (by decide) _ _ _ rfl ((own_up HO.out hb2).alloc _) ⟨w2.heap.size, 0, none⟩ 1 1 [.string s] rfl rfl (at_news (at_new0 _ _ _)) (one_str _) (by simp only [maxLen]; omega) (by omega) (Nat.le_trans HBS.out (Nat.le_trans hb2.out.size (by simp))) ?_); intro v1 w3 ho1 hg1 hn1; clear hn1) | fail)
      have hg2 : (w2.alloc (.cells #[.string s] 9)).grownBy w3 (Value.slice R k cp).ownBlock := hg1
      have HO2 := own_up HO.out hb2
      have HB2 : Hid (Below w.heap.size w w2) := HB.out.trans (hb2.out.mono HBS.out)
      have HB3 : Hid (Below w.heap.size w w3) := (HB2.out.alloc HB2.out.size _).grown hg2 (HB2.out.alloc HB2.out.size _).size (fun g' e => (HO2.lt g' e).1)
      obtain ⟨R2, cp2, rfl, _⟩ := own_slice ho1
      have HO3 := khide ho1
      clear hg1 hg2 ho1 HO2
      go_roundw
      case rel =>
        refine ⟨k + 1, cp2, R2, by omega, by go_num, rfl, (fun e => by omega), ?_, HB3⟩
        rw [HX.out]
        exact HO3
      case measure => simp [intOf]; omega
    · obtain rfl : k = n := by omega
      go_wp2
      go_ret
      have h3 := HO.out
      rw [List.take_of_length_le (by rw [← HN.out]; exact Nat.le_refl _)] at h3
      have e : (showsA l).length = k := by unfold showsA; rw [List.length_map, ← HN.out]
      refine ⟨R, cp, by rw [e]; rfl, ?_, fun e2 => HZ.out (by rw [← e, e2]; rfl), by rw [e]; exact h3, HB.out⟩
      obtain ⟨A1, c1, e1, h1⟩ := own_slice h3
      injection e1 with e2 _ e3
      subst e2; subst e3
      exact h1
end Go.Proofs.YthdpojkeceoiiaaGreatDoor
end

section
/- The document's own Join. Conditions: a text that fits. -/
open Go.RowKit
set_option maxRecDepth 100000
namespace Go.Proofs.YthdpojkeceoiiaaGreatDoor
section
variable {α : Type} {t : α} {css : List (List α)}
theorem glue_more {i : Nat} (h : i < css.length) (h0 : i ≠ 0) : glue t (css.take (i + 1)) = glue t (css.take i) ++ t :: css[i] := by
  rw [List.take_succ_eq_append_getElem h, glue_snoc (by intro e; rw [List.take_eq_nil_iff] at e; rcases e with e | e; (· exact h0 e); (· rw [e] at h; simp at h))]
theorem glue_one (h : 0 < css.length) : glue t (css.take 1) = css[0] := by
  cases css with
  | nil => simp at h
  | cons c css => rfl
theorem glue_le (i : Nat) : (glue t (css.take i)).length ≤ (glue t css).length := by
  induction css generalizing i with
  | nil => simp
  | cons c css ih =>
    cases i with
    | zero => simp [glue]
    | succ i =>
      rw [List.take_succ_cons]
      cases css with
      | nil => simp
      | cons d css =>
        have := ih i
        cases i with
        | zero => simp [glue]
        | succ i =>
          rw [List.take_succ_cons] at this ⊢
          rw [glue_cons _ (List.cons_ne_nil _ _), glue_cons _ (List.cons_ne_nil _ _)]
          simp only [List.length_append, List.length_cons] at this ⊢
          omega
end
theorem ystr_ret {t u : ByteArray} (h : t = u) : Ending.returned (.string t) = .returned (.string u) := by rw [h]
theorem app_data (s t : ByteArray) : (s ++ t).data.toList = s.data.toList ++ t.data.toList := by simp
theorem rjoin_math {S x : ByteArray} {ls : List (List UInt8)} {k : Nat} (hS : S.data.toList = glue 45 (ls.take k)) (hx : ls[k]? = some x.data.toList) (h0 : k ≠ 0) : (S ++ ⟨#[45]⟩ ++ x).data.toList = glue 45 (ls.take (k + 1)) := by
  have hk : k < ls.length := by
    rcases Nat.lt_or_ge k ls.length with h1 | h1
    · exact h1
    · rw [List.getElem?_eq_none h1] at hx; cases hx
  rw [List.getElem?_eq_getElem hk] at hx
  injection hx with hx
  rw [glue_more hk h0, app_data, app_data, hS, hx]
  simp
theorem rjoin_math0 {S x : ByteArray} {ls : List (List UInt8)} (hS : S.data.toList = glue 45 (ls.take 0)) (hx : ls[0]? = some x.data.toList) : (S ++ x).data.toList = glue 45 (ls.take (0 + 1)) := by
  have hk : 0 < ls.length := by
    rcases Nat.lt_or_ge 0 ls.length with h1 | h1
    · exact h1
    · rw [List.getElem?_eq_none h1] at hx; cases hx
  rw [List.getElem?_eq_getElem hk] at hx
  injection hx with hx
  rw [glue_one hk, app_data, hS, hx]
  rfl
set_option maxHeartbeats 1000000 in
theorem rjoin_any {A : Option Addr} {n c : Nat} {xs : List ByteArray} {w : World} (h : Ss w A xs) (hn : n = xs.length) (hN : n ≤ 1000000) (hl : (glue 45 (xs.map (·.data.toList))).length ≤ 140737488355328) :
    Calls Tryz.prog 73 #[.slice A n c] w fun e w' => e = .returned (.string (joinS xs)) ∧ w = w' := by
  have HN := yhide hn
  obtain ⟨ls, hls⟩ : ∃ ls, ls = xs.map (·.data.toList) := ⟨_, rfl⟩
  have HL : Hid (ls = xs.map (·.data.toList)) := hls
  have HB : Hid (∀ i, (glue 45 (ls.take i)).length ≤ 140737488355328) := fun i => Nat.le_trans (glue_le i) (by rw [hls]; exact hl)
  clear hn hl hls
  go_enter Tryz.func73, Tryz.ntmps73
  go_wp2
  go_loop [3, 4] (fun sv iv => ∃ (k : Nat) (S : ByteArray), k ≤ n ∧ iv = .int .i64 (k : Int) ∧ sv = .string S ∧ Hid (S.data.toList = glue 45 (ls.take k))) (fun _ iv => n - (intOf iv).toNat)
  case atStart => exact ⟨0, _, Nat.zero_le _, rfl, rfl, rfl⟩
  case round =>
    obtain ⟨k, S, hk, rfl, rfl, hS⟩ := hrel
    by_cases hlt : k < n
    · have hx : k < xs.length := by rw [← HN.out]; exact hlt
      obtain ⟨ad, rfl, hb, hcell⟩ := h.out.at_ hx
      obtain ⟨x, hxe⟩ : ∃ x, x = xs[k] := ⟨_, rfl⟩
      rw [← hxe] at hcell
      have HX : Hid (ls[k]? = some x.data.toList) := by
        unfold Hid
        rw [HL.out, List.getElem?_map, List.getElem?_eq_getElem hx, hxe]; rfl
      clear hxe hx
      by_cases h0 : k = 0
      · subst h0
        have HM := yhide (rjoin_math0 hS.out HX.out)
        have hsz : S.size + x.size ≤ 140737488355328 := by
          have h1 := HB.out (0 + 1)
          rw [← HM.out, app_data, List.length_append, ← Lib.size_eq, ← Lib.size_eq] at h1
          exact h1
        have q1 : ¬ 9223372036854775807 < S.size + x.size := by omega
        have q2 : S.size + x.size ≤ 9223372036854775807 := by omega
        replace hcell : w.cell? ad = some (.string x) := by rw [show ad.add 0 = ad by simp [Addr.add]] at hcell; exact hcell
        clear hsz
        go_wp2
        go_round
        case rel => exact ⟨0 + 1, _, by omega, by first | rfl | go_num, rfl, HM.out⟩
        case measure => simp [intOf]; omega
      · have HM := yhide (rjoin_math hS.out HX.out h0)
        have hsz : S.size + 1 + x.size ≤ 140737488355328 := by
          have h1 := HB.out (k + 1)
          rw [← HM.out, app_data, app_data, List.length_append, List.length_append, ← Lib.size_eq, ← Lib.size_eq] at h1
          exact h1
        have q1 : ¬ 9223372036854775807 < S.size + 1 := by omega
        have q2 : S.size + 1 ≤ 9223372036854775807 := by omega
        have q3 : ¬ 9223372036854775807 < S.size + 1 + x.size := by omega
        have q4 : S.size + 1 + x.size ≤ 9223372036854775807 := by omega
        have d0 : decide (0 < k) = true := decide_eq_true (by omega)
        have d1 : 0 < k := by omega
        clear hsz h0
        go_wp2
        go_round
        case rel => exact ⟨k + 1, _, by omega, by go_num, rfl, HM.out⟩
        case measure => simp [intOf]; omega
    · obtain rfl : k = n := by omega
      have HE : Hid (S = joinS xs) := by
        refine ByteArray.ext (Array.ext' ?_)
        have h1 := hS.out
        rw [HL.out, List.take_of_length_le (by rw [List.length_map, ← HN.out]; exact Nat.le_refl _)] at h1
        rw [h1]; rfl
      go_wp2
      go_ret
      exact ⟨ystr_ret HE.out, rfl⟩
end Go.Proofs.YthdpojkeceoiiaaGreatDoor
end

section
/- The document's own ShowPart. Conditions: atoms that fit, at most 1000 a row. -/
open Go.RowKit
set_option maxRecDepth 100000
namespace Go.Proofs.YthdpojkeceoiiaaGreatDoor
/-- Atoms, atoms below them, a number's text. -/
abbrev PL := List AL × List AL × ByteArray
def oneB : ByteArray := ⟨#[49]⟩
/-- The words of a part. -/
def partW (p : PL) : List ByteArray := if p.2.1 = [] ∧ p.2.2 = oneB then showsA p.1 else if p.2.2 = oneB then showsA p.1 ++ [perB] ++ showsA p.2.1 else showsA p.1 ++ [perB] ++ [p.2.2] ++ showsA p.2.1
def partS (p : PL) : ByteArray := joinS (partW p)
def FitL (l : List AL) : Prop := l.length ≤ 1000 ∧ ∀ a ∈ l, a.1.size ≤ 2000000 ∧ a.2.1.size ≤ 2000000
theorem str_tests {t : ByteArray} {b : Bool} (h : decide (t = oneB) = b) : (t.toList == [49]) = b ∧ (t.toList != [49]) = !b := by
  have e : (t.toList == [49]) = b := by
    cases b with
    | true =>
      have := of_decide_eq_true h
      subst this
      decide +kernel
    | false =>
      have := of_decide_eq_false h
      have h2 := str_ne this
      rwa [show oneB.toList = [49] from by decide +kernel] at h2
  exact ⟨e, by rw [bne, e]⟩
theorem partW_len (p : PL) (h : p.1.length ≤ 1000) (h' : p.2.1.length ≤ 1000) : (partW p).length ≤ 10000 := by
  unfold partW showsA
  split
  · simp; omega
  · split <;> simp <;> omega
/-- What stays while a row of strings is made. -/
theorem grown_on {W w2 w3 : World} {B n : Nat} {e : TypeId} {v : Value} {xs : List Value} {o : Obj} (hb : Hid (Below B W w2)) (hB : B ≤ w2.heap.size) (ho : w2.ownsRow B e 1 v n xs) (hg : (w2.alloc o).grownBy w3 v.ownBlock) : Hid (Below B W w3) :=
  (hb.out.alloc hB _).grown hg (Nat.le_trans hB (by simp)) (fun g' e => (ho.lt g' e).1)
theorem grown_on' {W w2 w3 : World} {B n : Nat} {e : TypeId} {v : Value} {xs : List Value} (hb : Hid (Below B W w2)) (hB : B ≤ w2.heap.size) (ho : w2.ownsRow B e 1 v n xs) (hg : w2.grownBy w3 v.ownBlock) : Hid (Below B W w3) :=
  hb.out.grown hg hB (fun g' e => (ho.lt g' e).1)
theorem ss_own' {W : World} {base n c : Nat} {e : TypeId} {A : Option Addr} {L : List Value} {zs : List ByteArray} (h : W.ownsRow base e 1 (.slice A n c) n L) (hL : L = zs.map Value.string) (hn : n = zs.length) : Ss W A zs := by subst hn; subst hL; exact RS.of_own h
theorem ss_own {W : World} {base n c : Nat} {e : TypeId} {A : Option Addr} {xs : List ByteArray} (h : W.ownsRow base e 1 (.slice A n c) n (xs.map Value.string)) (hn : n = xs.length) : Ss W A xs := by subst hn; exact RS.of_own h
theorem ss_news {W : World} {A : Option Addr} {xs : List ByteArray} (h : Ss W A xs) (h0 : 0 < xs.length) : ∃ ad, A = some ad ∧ ∀ j u, (xs.map Value.string)[j]? = some u → W.cell? (ad.add j) = some u := by
  obtain ⟨ad, e, _, hc⟩ := h.out h0
  refine ⟨ad, e, fun j u hu => ?_⟩
  rw [List.getElem?_map] at hu
  cases e2 : xs[j]? with
  | none => rw [e2] at hu; cases hu
  | some x => rw [e2] at hu; injection hu with hu; subst hu; exact hc j x e2
theorem all_str (xs : List ByteArray) : ∀ u ∈ xs.map Value.string, u.oneCell' = true := by
  intro u hu
  obtain ⟨x, _, rfl⟩ := List.mem_map.1 hu
  rfl
set_option maxHeartbeats 8000000 in
theorem rpart_any {A B : Option Addr} {n c m d : Nat} {p : PL} {w : World} (h : Cs w A (cellsA p.1)) (hn : n = p.1.length) (h' : Cs w B (cellsA p.2.1)) (hm : m = p.2.1.length) (hf : FitL p.1) (hf' : FitL p.2.1) (hJ : (glue 45 ((partW p).map (·.data.toList))).length ≤ 140737488355328) :
    Calls Tryz.prog 46 #[.agg #[.slice A n c, .slice B m d, .string p.2.2]] w (StrR w (partS p)) := by
  obtain ⟨W1, hW1⟩ : ∃ X, X = w.alloc (.cells #[.slice A n c, .slice B m d, .string p.2.2] 86) := ⟨_, rfl⟩
  have HA1 : At W1 w.heap.size [.slice A n c, .slice B m d, .string p.2.2] := by rw [hW1]; exact at_new0 _ _ _
  have HB1 : Bel w W1 := by rw [hW1]; exact (Bel.refl w).al _
  have hb0 : Hid (Below w.heap.size w W1) := HB1
  have C1 : Hid (Calls Tryz.prog 72 #[.slice A n c] W1 (StrsO W1 (showsA p.1))) := rshows_any (h.up hb0) hn (by have := hf.1; omega) hf.2
  have C2 : Hid (∀ W', Hid (Below W1.heap.size W1 W') → Calls Tryz.prog 72 #[.slice B m d] W' (StrsO W' (showsA p.2.1))) := fun W' hb => rshows_any ((h'.up hb0).up hb) hm (by have := hf'.1; omega) hf'.2
  have hPL := partW_len p hf.1 hf'.1
  have CJ : Hid (∀ (W' : World) (A' : Option Addr) (n' c' : Nat), Ss W' A' (partW p) → n' = (partW p).length → Calls Tryz.prog 73 #[.slice A' n' c'] W' fun e w' => e = .returned (.string (partS p)) ∧ w' = W') := fun W' A' n' c' hS hL =>
    (rjoin_any hS hL (by omega) hJ).mono fun _ _ h => ⟨h.1, h.2.symm⟩
  have LX : (showsA p.1).length ≤ 1000 := by unfold showsA; rw [List.length_map]; exact hf.1
  have LY : (showsA p.2.1).length ≤ 1000 := by unfold showsA; rw [List.length_map]; exact hf'.1
  have HM : Hid (m = (showsA p.2.1).length) := by unfold Hid showsA; rw [List.length_map]; exact hm
  have HZ : Hid (p.2.1 = [] ↔ m = 0) := by unfold Hid; rw [hm, List.length_eq_zero_iff]
  have HP : Hid (partW p = if p.2.1 = [] ∧ p.2.2 = oneB then showsA p.1 else if p.2.2 = oneB then showsA p.1 ++ [perB] ++ showsA p.2.1 else showsA p.1 ++ [perB] ++ [p.2.2] ++ showsA p.2.1) := rfl
  obtain ⟨S, hS⟩ : ∃ S, partS p = S := ⟨_, rfl⟩
  obtain ⟨zs, hzs⟩ : ∃ zs, partW p = zs := ⟨_, rfl⟩
  rw [hS] at CJ ⊢
  rw [hzs] at CJ HP
  clear h h' hn hm hf hf' hJ hPL hS hzs hb0
  obtain ⟨l1, l2, t⟩ := p
  have HW := khide hW1
  clear hW1
  replace HW : Hid (W1 = w.alloc (.cells #[.slice A n c, .slice B m d, .string t] 86)) := HW
  obtain ⟨xs, hxs⟩ : ∃ xs, showsA l1 = xs := ⟨_, rfl⟩
  obtain ⟨ys, hys⟩ : ∃ ys, showsA l2 = ys := ⟨_, rfl⟩
  replace HA1 : At W1 w.heap.size [.slice A n c, .slice B m d, .string t] := HA1
  replace C1 : Hid (Calls Tryz.prog 72 #[.slice A n c] W1 (StrsO W1 xs)) := hxs ▸ C1
  replace C2 : Hid (∀ W', Hid (Below W1.heap.size W1 W') → Calls Tryz.prog 72 #[.slice B m d] W' (StrsO W' ys)) := hys ▸ C2
  replace LX : xs.length ≤ 1000 := hxs ▸ LX
  replace LY : ys.length ≤ 1000 := hys ▸ LY
  replace HM : Hid (m = ys.length) := hys ▸ HM
  replace HZ : Hid (l2 = [] ↔ m = 0) := HZ
  replace HP : Hid (zs = if l2 = [] ∧ t = oneB then xs else if t = oneB then xs ++ [perB] ++ ys else xs ++ [perB] ++ [t] ++ ys) := by rw [← hxs, ← hys]; exact HP
  clear hxs hys
  show Calls Tryz.prog 46 #[.agg #[.slice A n c, .slice B m d, .string t]] w (StrR w S)
  obtain ⟨i0, hi, hz0, hz1, hz2⟩ := info_parts hinfoStr
  have J0 := khide hi; have Y0 := khide hz0; have Y1 := khide hz1; have Y2 := khide hz2
  clear hi hz0 hz1 hz2
  have ha_0 := HA1.c0; have ha_1 := HA1.c1; have ha_2 := HA1.c2; have ha_l := HA1.lt
  obtain ⟨b, hb⟩ : ∃ b, decide (t = oneB) = b := ⟨_, rfl⟩
  obtain ⟨dt1, dt2⟩ := str_tests hb
  have HBT := khide hb
  clear hb
  by_cases hm0 : m = 0
  · have dm : decide ((0 : Int) < (m : Int)) = false := decide_eq_false (by omega)
    have dn : decide (0 < m) = false := decide_eq_false (by omega)
    have dq : ¬ 0 < m := by omega
    have HL2 : Hid (l2 = []) := HZ.out.2 hm0
    obtain rfl : ys = [] := List.eq_nil_of_length_eq_zero (by rw [← HM.out, hm0])
    clear hm0
    cases b with
    | true =>
      have HV : Hid (zs = xs) := by rw [HP.out, if_pos ⟨HL2.out, of_decide_eq_true HBT.out⟩]; rfl
      go_enter Tryz.func46, Tryz.ntmps46
      go_upto_region 1 with fail
      rw [← HW.out]
      go_wp2_with (first | (go_at_call 72; (with_reducible refine (C1.out).mono ?_); rintro e w2 ⟨A1, c1, rfl, -, -, HO2, hb1⟩; have HB2 : Hid (Below W1.heap.size W1 w2) := hb1; have HS2 : Hid (W1.heap.size ≤ w2.heap.size) := hb1.size; clear hb1; clear ha_0 ha_1 ha_2 ha_l; have HA2 := HA1.up HB2; have ha_0 := HA2.c0; have ha_1 := HA2.c1; have ha_2 := HA2.c2; have ha_l := HA2.lt) | (go_at_call 73; (with_reducible refine (CJ.out _ _ _ _ (ss_own' HO2.out (by rw [HV.out]; all_goals (first | (simp [perB]; done) | (simp [perB]; omega))) (by rw [HV.out]; all_goals (first | (simp [perB]; done) | (simp [perB]; omega)))) (by rw [HV.out]; all_goals (first | (simp [perB]; done) | (simp [perB]; omega)))).mono ?_); rintro e w9 ⟨rfl, rfl⟩) | fail)
      go_ret
      exact ⟨rfl, HB1.up HB2⟩
    | false =>
      have HV : Hid (zs = xs ++ [perB] ++ [t]) := by rw [HP.out, if_neg (fun h => of_decide_eq_false HBT.out h.2), if_neg (of_decide_eq_false HBT.out)]; exact List.append_nil _
      go_enter Tryz.func46, Tryz.ntmps46
      go_upto_region 1 with fail
      rw [← HW.out]
      go_wp2_with (first | (go_at_call 72; (with_reducible refine (C1.out).mono ?_); rintro e w2 ⟨A1, c1, rfl, -, -, HO2, hb1⟩; have HB2 : Hid (Below W1.heap.size W1 w2) := hb1; have HS2 : Hid (W1.heap.size ≤ w2.heap.size) := hb1.size; clear hb1; clear ha_0 ha_1 ha_2 ha_l; have HA2 := HA1.up HB2; have ha_0 := HA2.c0; have ha_1 := HA2.c1; have ha_2 := HA2.c2; have ha_l := HA2.lt) | (at_builtin; refine wpList_append_own _ rfl (.tmp 16) (.tmp 17) 23 rfl W1.heap.size 9 i0 (.string ByteArray.empty) 1 16 Tryz.underlying23 J0.out Y0.out Y1.out Y2.out rfl (by decide) _ _ _ rfl (HO2.out.alloc _) ⟨w2.heap.size, 0, none⟩ 1 1 [.string ⟨#[112, 101, 114]⟩] rfl rfl (at_news (at_new0 _ _ _)) (one_str _) (by simp only [maxLen]; omega) (by omega) (Nat.le_trans HS2.out (by simp)) ?_; intro v3 w3 ho hg hn1; clear hn1; obtain ⟨A3, c3, rfl, _⟩ := own_slice ho; have HB3 : Hid (Below W1.heap.size W1 w3) := grown_on HB2 HS2.out HO2.out hg; have HS3 : Hid (W1.heap.size ≤ w3.heap.size) := HB3.out.size; have HO3 := khide ho; clear ho hg; clear ha_0 ha_1 ha_2 ha_l; have HA3 := HA1.up HB3; have ha_0 := HA3.c0; have ha_1 := HA3.c1; have ha_2 := HA3.c2; have ha_l := HA3.lt) | (at_builtin; refine wpList_append_own _ rfl (.tmp 22) (.tmp 25) 23 rfl W1.heap.size 9 i0 (.string ByteArray.empty) 1 16 Tryz.underlying23 J0.out Y0.out Y1.out Y2.out rfl (by decide) _ _ _ rfl (HO3.out.alloc _) ⟨w3.heap.size, 0, none⟩ 1 1 [.string t] rfl rfl (at_news (at_new0 _ _ _)) (one_str _) (by simp only [maxLen]; omega) (by omega) (Nat.le_trans HS3.out (by simp)) ?_; intro v4 w4 ho hg hn1; clear hn1; obtain ⟨A4, c4, rfl, _⟩ := own_slice ho; have HB4 : Hid (Below W1.heap.size W1 w4) := grown_on HB3 HS3.out HO3.out hg; have HS4 : Hid (W1.heap.size ≤ w4.heap.size) := HB4.out.size; have HO4 := khide ho; clear ho hg; clear ha_0 ha_1 ha_2 ha_l; have HA4 := HA1.up HB4; have ha_0 := HA4.c0; have ha_1 := HA4.c1; have ha_2 := HA4.c2; have ha_l := HA4.lt) | (go_at_call 72; (with_reducible refine (C2.out _ HB4).mono ?_); rintro e w5 ⟨AD, cd, rfl, HAD, HZD, HOD, hbd⟩; obtain ⟨rfl, rfl⟩ := HZD.out rfl; have HB5 : Hid (Below W1.heap.size W1 w5) := HB4.out.trans (Below.mono hbd HS4.out); have HS5 : Hid (W1.heap.size ≤ w5.heap.size) := HB5.out.size; have HO5 := khide (own_up HO4.out hbd.hid); clear ha_0 ha_1 ha_2 ha_l; have HA5 := HA1.up HB5; have ha_0 := HA5.c0; have ha_1 := HA5.c1; have ha_2 := HA5.c2; have ha_l := HA5.lt) | (at_builtin; refine wpList_append_own_none rfl (.tmp 27) (.tmp 30) 23 rfl W1.heap.size 9 i0 1 Tryz.underlying23 J0.out _ _ _ rfl HO5.out rfl ?_) | (go_at_call 73; (with_reducible refine (CJ.out _ _ _ _ (ss_own' HO5.out (by rw [HV.out]; all_goals (first | (simp [perB]; done) | (simp [perB]; omega))) (by rw [HV.out]; all_goals (first | (simp [perB]; done) | (simp [perB]; omega)))) (by rw [HV.out]; all_goals (first | (simp [perB]; done) | (simp [perB]; omega)))).mono ?_); rintro e w9 ⟨rfl, rfl⟩) | fail)
      go_ret
      exact ⟨rfl, HB1.up HB5⟩
  · have dm : decide ((0 : Int) < (m : Int)) = true := decide_eq_true (by omega)
    have dn : decide (0 < m) = true := decide_eq_true (by omega)
    have dq : 0 < m := by omega
    have HL2 : Hid (l2 ≠ []) := fun h => hm0 (HZ.out.1 h)
    have hy0 : 0 < ys.length := by rw [← HM.out]; omega
    clear hm0
    cases b with
    | true =>
      have HV : Hid (zs = xs ++ [perB] ++ ys) := by rw [HP.out, if_neg (fun h => HL2.out h.1), if_pos (of_decide_eq_true HBT.out)]; rfl
      go_enter Tryz.func46, Tryz.ntmps46
      go_upto_region 1 with fail
      rw [← HW.out]
      go_wp2_with (first | (go_at_call 72; (with_reducible refine (C1.out).mono ?_); rintro e w2 ⟨A1, c1, rfl, -, -, HO2, hb1⟩; have HB2 : Hid (Below W1.heap.size W1 w2) := hb1; have HS2 : Hid (W1.heap.size ≤ w2.heap.size) := hb1.size; clear hb1; clear ha_0 ha_1 ha_2 ha_l; have HA2 := HA1.up HB2; have ha_0 := HA2.c0; have ha_1 := HA2.c1; have ha_2 := HA2.c2; have ha_l := HA2.lt) | (at_builtin; refine wpList_append_own _ rfl (.tmp 16) (.tmp 17) 23 rfl W1.heap.size 9 i0 (.string ByteArray.empty) 1 16 Tryz.underlying23 J0.out Y0.out Y1.out Y2.out rfl (by decide) _ _ _ rfl (HO2.out.alloc _) ⟨w2.heap.size, 0, none⟩ 1 1 [.string ⟨#[112, 101, 114]⟩] rfl rfl (at_news (at_new0 _ _ _)) (one_str _) (by simp only [maxLen]; omega) (by omega) (Nat.le_trans HS2.out (by simp)) ?_; intro v3 w3 ho hg hn1; clear hn1; obtain ⟨A3, c3, rfl, _⟩ := own_slice ho; have HB3 : Hid (Below W1.heap.size W1 w3) := grown_on HB2 HS2.out HO2.out hg; have HS3 : Hid (W1.heap.size ≤ w3.heap.size) := HB3.out.size; have HO3 := khide ho; clear ho hg; clear ha_0 ha_1 ha_2 ha_l; have HA3 := HA1.up HB3; have ha_0 := HA3.c0; have ha_1 := HA3.c1; have ha_2 := HA3.c2; have ha_l := HA3.lt) | (go_at_call 72; (with_reducible refine (C2.out _ HB3).mono ?_); rintro e w4 ⟨AD, cd, rfl, HAD, HZD, HOD, hbd⟩; obtain ⟨ad, rfl, hnews⟩ := ss_news (ss_own HOD.out rfl) hy0; have HB4 : Hid (Below W1.heap.size W1 w4) := HB3.out.trans (Below.mono hbd HS3.out); have HS4 : Hid (W1.heap.size ≤ w4.heap.size) := HB4.out.size; have HO4 := khide (own_up HO3.out hbd.hid); clear ha_0 ha_1 ha_2 ha_l; have HA4 := HA1.up HB4; have ha_0 := HA4.c0; have ha_1 := HA4.c1; have ha_2 := HA4.c2; have ha_l := HA4.lt) | (at_builtin; refine wpList_append_own _ rfl (.tmp 27) (.tmp 30) 23 rfl W1.heap.size 9 i0 (.string ByteArray.empty) 1 16 Tryz.underlying23 J0.out Y0.out Y1.out Y2.out rfl (by decide) _ _ _ rfl HO4.out ad ys.length cd (ys.map Value.string) rfl (by simp) hnews (all_str ys) (by simp only [maxLen]; omega) (by omega) HS4.out ?_; intro v5 w5 ho hg hn1; clear hn1; obtain ⟨A5, c5, rfl, _⟩ := own_slice ho; have HB5 : Hid (Below W1.heap.size W1 w5) := grown_on' HB4 HS4.out HO4.out hg; have HS5 : Hid (W1.heap.size ≤ w5.heap.size) := HB5.out.size; have HO5 := khide ho; clear ho hg; clear ha_0 ha_1 ha_2 ha_l; have HA5 := HA1.up HB5; have ha_0 := HA5.c0; have ha_1 := HA5.c1; have ha_2 := HA5.c2; have ha_l := HA5.lt) | (go_at_call 73; (with_reducible refine (CJ.out _ _ _ _ (ss_own' HO5.out (by rw [HV.out]; all_goals (first | (simp [perB]; done) | (simp [perB]; omega))) (by rw [HV.out]; all_goals (first | (simp [perB]; done) | (simp [perB]; omega)))) (by rw [HV.out]; all_goals (first | (simp [perB]; done) | (simp [perB]; omega)))).mono ?_); rintro e w9 ⟨rfl, rfl⟩) | fail)
      go_ret
      exact ⟨rfl, HB1.up HB5⟩
    | false =>
      have HV : Hid (zs = xs ++ [perB] ++ [t] ++ ys) := by rw [HP.out, if_neg (fun h => HL2.out h.1), if_neg (of_decide_eq_false HBT.out)]; rfl
      go_enter Tryz.func46, Tryz.ntmps46
      go_upto_region 1 with fail
      rw [← HW.out]
      go_wp2_with (first | (go_at_call 72; (with_reducible refine (C1.out).mono ?_); rintro e w2 ⟨A1, c1, rfl, -, -, HO2, hb1⟩; have HB2 : Hid (Below W1.heap.size W1 w2) := hb1; have HS2 : Hid (W1.heap.size ≤ w2.heap.size) := hb1.size; clear hb1; clear ha_0 ha_1 ha_2 ha_l; have HA2 := HA1.up HB2; have ha_0 := HA2.c0; have ha_1 := HA2.c1; have ha_2 := HA2.c2; have ha_l := HA2.lt) | (at_builtin; refine wpList_append_own _ rfl (.tmp 16) (.tmp 17) 23 rfl W1.heap.size 9 i0 (.string ByteArray.empty) 1 16 Tryz.underlying23 J0.out Y0.out Y1.out Y2.out rfl (by decide) _ _ _ rfl (HO2.out.alloc _) ⟨w2.heap.size, 0, none⟩ 1 1 [.string ⟨#[112, 101, 114]⟩] rfl rfl (at_news (at_new0 _ _ _)) (one_str _) (by simp only [maxLen]; omega) (by omega) (Nat.le_trans HS2.out (by simp)) ?_; intro v3 w3 ho hg hn1; clear hn1; obtain ⟨A3, c3, rfl, _⟩ := own_slice ho; have HB3 : Hid (Below W1.heap.size W1 w3) := grown_on HB2 HS2.out HO2.out hg; have HS3 : Hid (W1.heap.size ≤ w3.heap.size) := HB3.out.size; have HO3 := khide ho; clear ho hg; clear ha_0 ha_1 ha_2 ha_l; have HA3 := HA1.up HB3; have ha_0 := HA3.c0; have ha_1 := HA3.c1; have ha_2 := HA3.c2; have ha_l := HA3.lt) | (at_builtin; refine wpList_append_own _ rfl (.tmp 22) (.tmp 25) 23 rfl W1.heap.size 9 i0 (.string ByteArray.empty) 1 16 Tryz.underlying23 J0.out Y0.out Y1.out Y2.out rfl (by decide) _ _ _ rfl (HO3.out.alloc _) ⟨w3.heap.size, 0, none⟩ 1 1 [.string t] rfl rfl (at_news (at_new0 _ _ _)) (one_str _) (by simp only [maxLen]; omega) (by omega) (Nat.le_trans HS3.out (by simp)) ?_; intro v4 w4 ho hg hn1; clear hn1; obtain ⟨A4, c4, rfl, _⟩ := own_slice ho; have HB4 : Hid (Below W1.heap.size W1 w4) := grown_on HB3 HS3.out HO3.out hg; have HS4 : Hid (W1.heap.size ≤ w4.heap.size) := HB4.out.size; have HO4 := khide ho; clear ho hg; clear ha_0 ha_1 ha_2 ha_l; have HA4 := HA1.up HB4; have ha_0 := HA4.c0; have ha_1 := HA4.c1; have ha_2 := HA4.c2; have ha_l := HA4.lt) | (go_at_call 72; (with_reducible refine (C2.out _ HB4).mono ?_); rintro e w5 ⟨AD, cd, rfl, HAD, HZD, HOD, hbd⟩; obtain ⟨ad, rfl, hnews⟩ := ss_news (ss_own HOD.out rfl) hy0; have HB5 : Hid (Below W1.heap.size W1 w5) := HB4.out.trans (Below.mono hbd HS4.out); have HS5 : Hid (W1.heap.size ≤ w5.heap.size) := HB5.out.size; have HO5 := khide (own_up HO4.out hbd.hid); clear ha_0 ha_1 ha_2 ha_l; have HA5 := HA1.up HB5; have ha_0 := HA5.c0; have ha_1 := HA5.c1; have ha_2 := HA5.c2; have ha_l := HA5.lt) | (at_builtin; refine wpList_append_own _ rfl (.tmp 27) (.tmp 30) 23 rfl W1.heap.size 9 i0 (.string ByteArray.empty) 1 16 Tryz.underlying23 J0.out Y0.out Y1.out Y2.out rfl (by decide) _ _ _ rfl HO5.out ad ys.length cd (ys.map Value.string) rfl (by simp) hnews (all_str ys) (by simp only [maxLen]; omega) (by omega) HS5.out ?_; intro v6 w6 ho hg hn1; clear hn1; obtain ⟨A6, c6, rfl, _⟩ := own_slice ho; have HB6 : Hid (Below W1.heap.size W1 w6) := grown_on' HB5 HS5.out HO5.out hg; have HS6 : Hid (W1.heap.size ≤ w6.heap.size) := HB6.out.size; have HO6 := khide ho; clear ho hg; clear ha_0 ha_1 ha_2 ha_l; have HA6 := HA1.up HB6; have ha_0 := HA6.c0; have ha_1 := HA6.c1; have ha_2 := HA6.c2; have ha_l := HA6.lt) | (go_at_call 73; (with_reducible refine (CJ.out _ _ _ _ (ss_own' HO6.out (by rw [HV.out]; all_goals (first | (simp [perB]; done) | (simp [perB]; omega))) (by rw [HV.out]; all_goals (first | (simp [perB]; done) | (simp [perB]; omega)))) (by rw [HV.out]; all_goals (first | (simp [perB]; done) | (simp [perB]; omega)))).mono ?_); rintro e w9 ⟨rfl, rfl⟩) | fail)
      go_ret
      exact ⟨rfl, HB1.up HB6⟩
end Go.Proofs.YthdpojkeceoiiaaGreatDoor
end
