/- The document's own part: a row with one 'per'. Conditions: texts and lists that fit. -/
import Derived.Test.YthdpojkeceoiiaaGreatDoorHh
import Derived.Test.YthdpojkeceoiiaaGreatDoorGOkc24
import Derived.Deep.CutRange
open Go.RowKit
set_option maxRecDepth 100000
namespace Go.Proofs.YthdpojkeceoiiaaGreatDoor
/-- What atoms comes to, the row aside. -/
def AtomsB (W : World) (b : Bool) (e : Ending) (w' : World) : Prop := ∃ A n c, e = .returned (.tuple #[.slice A n c, .bool b]) ∧ Bel W w'
/-- The contract of the document's atoms for one row, in any world above. -/
abbrev RAtoms (w : World) (A B : Option Addr) (n c m d : Nat) (l : List ByteArray) (R : World → Ending → World → Prop) : Prop :=
  ∀ (W : World) (D : Option Addr) (j g : Nat), Bel w W → Ss W D l → j = l.length → j ≤ g → Calls Tryz.prog 69 #[.agg #[.slice A n c, .slice B m d], .slice D j g] W (R W)
theorem headD_kb {x : ByteArray} {dl : List ByteArray} {bn y : Bool} (hb : numW x.data.toList = bn) (hy : (x.toList != [49]) = y) : headD (x :: dl) = if (bn && y) = true then (x, dl) else (oneB, x :: dl) := by
  by_cases h1 : x = oneB
  · have h2 : y = false := by rw [← hy]; exact (str_tests (decide_eq_true h1)).2
    have e : headD (x :: dl) = (oneB, x :: dl) := if_neg (fun k => k.2 h1)
    rw [e, h2, Bool.and_false]; rfl
  · have h2 : y = true := by rw [← hy]; exact (str_tests (decide_eq_false h1)).2
    cases bn with
    | false =>
      have e : headD (x :: dl) = (oneB, x :: dl) := if_neg (fun k => by rw [hb] at k; exact absurd k.1 (by decide))
      rw [e]; rfl
    | true =>
      have e : headD (x :: dl) = (x, dl) := if_pos ⟨hb, h1⟩
      rw [e, h2]; rfl
theorem atomsB_of {W : World} {res : Option (List AL)} {e : Ending} {w' : World} (h : AtomsR W res e w') : AtomsB W res.isSome e w' := by
  cases res with
  | none => exact ⟨_, _, _, h.1, h.2⟩
  | some l => obtain ⟨A, c, h1, _, _, h4⟩ := h; exact ⟨A, _, c, h1, h4⟩
section
variable {A B D : Option Addr} {n c m d j g : Nat} {names ps l a d' : List ByteArray} {w : World}
theorem ss_put {W : World} {A : Option Addr} {xs : List ByteArray} {p : Addr} {A' : Option Addr} {n c : Nat} (h : Ss W A xs) (hc : W.cell? p = some (.slice A' n c)) (u : Value) : Ss (W.setCell p u) A xs := fun h0 => by
  obtain ⟨ad, e, hb, hx⟩ := h.out h0
  have hz : (W.setCell p u).heap.size = W.heap.size := by simp [World.setCell]
  refine ⟨ad, e, by rw [hz]; exact hb, fun j x hj => ?_⟩
  have h6 := hx j x hj
  rw [World.cell?_setCell_other W p _ u (by intro e; rw [← e, hc] at h6; injection h6 with h6; cases h6)]
  exact h6
theorem ss_put2 {W : World} {A : Option Addr} {xs : List ByteArray} {p i : Nat} {v : Value} (h : Ss W A xs) (_ : W.cell? ⟨p, i, none⟩ = some v) (hA : ∀ ad, A = some ad → p ≠ ad.block) (u : Value) : Ss (W.setCell ⟨p, i, none⟩ u) A xs := fun h0 => by
  obtain ⟨ad, e, hb, hx⟩ := h.out h0
  have hz : (W.setCell ⟨p, i, none⟩ u).heap.size = W.heap.size := by simp [World.setCell]
  refine ⟨ad, e, by rw [hz]; exact hb, fun j x hj => ?_⟩
  exact (World.cell?_setCell_far _ _ _ _ (by rw [yblock_add]; exact hA ad e)).trans (hx j x hj)
set_option maxHeartbeats 8000000 in
theorem part_two_empty {b : Bool} (hne : d' = []) (h2 : Ss w D l) (hj : j = l.length) (hjl : j ≤ 1000000) (hc : cutBy perB l = [a, d']) (hau : ∀ x ∈ d', x.size ≤ 1000000) (CA1 : Hid (RAtoms w A B n c m d a (fun W => AtomsB W b))) :
    Calls Tryz.prog 43 #[.agg #[.slice A n c, .slice B m d], .slice D j g] w (PartR w (none)) := by
  obtain ⟨W1, hW1⟩ : ∃ X, X = (w.alloc (.cells #[.slice A n c, .slice B m d] 48)).alloc (.cells #[.slice none 0 0, .slice none 0 0, .string ⟨#[]⟩] 86) := ⟨_, rfl⟩
  have HK : At W1 w.heap.size [.slice A n c, .slice B m d] := by rw [hW1]; exact (at_new0 _ _ _).al _
  have HR : At W1 (w.heap.size + 1) [.slice none 0 0, .slice none 0 0, .string ⟨#[]⟩] := by rw [hW1]; exact at_new1 _ _ _ _
  have HB : Bel w W1 := by rw [hW1]; exact ((Bel.refl w).al _).al _
  have HB0 : Hid (Below w.heap.size w W1) := HB
  have CC : Hid (Calls Tryz.prog 42 #[.slice D j g, .string ⟨#[112, 101, 114]⟩] W1 (ListsC W1 [a, d'])) := hc ▸ rcut_any (t := perB) (h2.up HB0) hj hjl
  have HW := khide hW1
  clear hW1 h2 hj hjl hc HB0
  go_enter Tryz.func43, Tryz.ntmps43
  go_upto_region 1 with fail
  rw [← HW.out]
  go_upto_region 6 with (first | (go_at_call 42; (with_reducible refine (CC.out).mono ?_); rintro e w2 ⟨ad, cc, rfl, hss, hcap, hb2⟩; replace HK := HK.up hb2; replace HR := HR.up hb2; replace HB := HB.up hb2) | fail)
  obtain ⟨ad', D0, c0, e0, hab, hc0, hs0, -⟩ := hss.out.at_ (k := 0) (by simp)
  injection e0 with e0
  subst e0
  have hcp : a.length ≤ c0 := hcap 0 _ _ _ (by simp) hc0
  rw [addr_zero] at hc0
  replace hc0 : w2.cell? ad = some (.slice D0 a.length c0) := hc0
  have HS0 : Ss w2 D0 a := hs0
  obtain ⟨ad2, D1, c1, e1, hab1, hc1, hs1, -⟩ := hss.out.at_ (k := 1) (by simp)
  injection e1 with e1
  subst e1
  have hcp1 : d'.length ≤ c1 := hcap 1 _ _ _ (by simp) hc1
  rw [← add_one'] at hc1
  replace hc1 : w2.cell? ⟨ad.block, ad.off + 1, none⟩ = some (.slice D1 d'.length c1) := hc1
  have HS1 : Ss w2 D1 d' := hs1
  have hkl := HK.lt
  have hrl := HR.lt
  refine kwp_named ?_
  intro W3 hW3
  have HP : At W3 w2.heap.size [.slice none 0 0, .slice none 0 0, .string ⟨#[49]⟩] := by rw [hW3]; exact at_new0 _ _ _
  have HBC : Hid (Bel w2 W3) := by rw [hW3]; exact (Bel.refl w2).al _
  have hcell : W3.cell? ad = some (.slice D0 a.length c0) := (HBC.out.cell hab).trans hc0
  have hcell1 : W3.cell? ⟨ad.block, ad.off + 1, none⟩ = some (.slice D1 d'.length c1) := (HBC.out.cell (p := ⟨ad.block, ad.off + 1, none⟩) hab).trans hc1
  replace HS0 : Ss W3 D0 a := HS0.up HBC.out
  have HS1w : Hid (Ss w2 D1 d') := HS1
  replace HS1 : Ss W3 D1 d' := HS1.up HBC.out
  replace HB : Bel w W3 := HB.up HBC.out
  replace HK := HK.up HBC.out
  replace HR := HR.up HBC.out
  have hadw : ad.block < W3.heap.size := Nat.lt_of_lt_of_le hab HBC.out.size
  have hpw : w.heap.size ≤ w2.heap.size := Nat.le_of_lt hkl
  have hkp : w2.heap.size ≠ w.heap.size := Nat.ne_of_gt hkl
  have hrp : w2.heap.size ≠ w.heap.size + 1 := Nat.ne_of_gt hrl
  have hap : w2.heap.size ≠ ad.block := fun e => Nat.ne_of_lt hab e.symm
  have HD1 : Hid (∀ ad0, D1 = some ad0 → 0 < d'.length → w2.heap.size ≠ ad0.block) := fun ad0 e0 hl e => by
    obtain ⟨ad5, e5, hb5, _⟩ := HS1w.out.out hl
    rw [e0] at e5
    injection e5 with e5
    rw [← e5, ← e] at hb5
    exact Nat.lt_irrefl _ hb5
  obtain ⟨pp, hpp⟩ : ∃ p, p = w2.heap.size := ⟨_, rfl⟩
  rw [← hpp] at HP hap hkp hrp hpw HD1
  rw [← hpp]
  clear hW3 hpp hss hcap hc0 hs0 hab CC HBC hkl hrl HS1w hc1 hs1 hab1 HW
  replace HK := HK.dr; replace HR := HR.dr; replace HP := HP.dr; replace HB := HB.dr; replace HS0 := HS0.dr; replace HS1 := HS1.dr
  refine wp_region_held_drew (S := fun w' => w'.cell? ⟨w.heap.size, 0, none⟩ = some (.slice A n c) ∧ w'.cell? ⟨w.heap.size, 1, none⟩ = some (.slice B m d) ∧ w'.cell? ad = some (.slice D0 a.length c0)) (by kernel_rfl) ?_ (fun hHeld => ?_)
  · exact ⟨HK.c0, HK.c1, hcell⟩
  have hadl : ad.block < W3.drew.heap.size := hadw
  replace hcell : W3.drew.cell? ad = some (.slice D0 a.length c0) := hcell
  replace hcell1 : W3.drew.cell? ⟨ad.block, ad.off + 1, none⟩ = some (.slice D1 d'.length c1) := hcell1
  have hp_f0 := HP.f0
  generalize W3.drew = Wd at *
  have hpl := HP.lt
  have hrl2 := HR.lt
  have hwb := HB.size
  obtain ⟨bs, hbs⟩ : ∃ b, b = Wd.heap.size := ⟨_, rfl⟩
  rw [← hbs] at hpl hrl2 hwb
  have HBS := khide hbs
  clear hbs
  (refine wpAnyH_take (i := 0) (v := ?_) rfl (by decide +kernel) (by decide +kernel) (by decide +kernel) (fun _ _ _ h => h) (Or.inl ⟨by rfl, ?_⟩) (by assumption) ?_; rotate_left; (focus ((intro w hSw; (try dsimp only at hSw); go_simp); (try (with_reducible rfl)); done)); (try simp only [List.getElem_toArray, List.getElem_cons_zero, List.getElem_cons_succ, Act.put, List.setIfInBounds_toArray, List.set_cons_zero, List.set_cons_succ]))
  (refine wpAnyH_take (i := 1) (v := ?_) rfl (by decide +kernel) (by decide +kernel) (by decide +kernel) (fun _ _ _ h => h) (Or.inl ⟨by rfl, ?_⟩) (by assumption) ?_; rotate_left; (focus ((intro w hSw; (try dsimp only at hSw); go_simp); (try (with_reducible rfl)); done)); (try simp only [List.getElem_toArray, List.getElem_cons_zero, List.getElem_cons_succ, Act.put, List.setIfInBounds_toArray, List.set_cons_zero, List.set_cons_succ]))
  (refine wpAnyH_take (i := 2) (v := ?_) rfl (by decide +kernel) (by decide +kernel) (by decide +kernel) (fun _ _ _ h => h) (Or.inl ⟨by rfl, ?_⟩) (by assumption) ?_; rotate_left; (focus ((intro w hSw; (try dsimp only at hSw); go_simp); (try (with_reducible rfl)); done)); (try simp only [List.getElem_toArray, List.getElem_cons_zero, List.getElem_cons_succ, Act.put, List.setIfInBounds_toArray, List.set_cons_zero, List.set_cons_succ]))
  (refine wpAnyH_take (i := 3) (v := ?_) rfl (by decide +kernel) (by decide +kernel) (by decide +kernel) (fun _ _ _ h => h) (Or.inl ⟨by rfl, ?_⟩) (by assumption) ?_; rotate_left; (focus ((intro w hSw; (try dsimp only at hSw); go_simp); (try (with_reducible rfl)); done)); (try simp only [List.getElem_toArray, List.getElem_cons_zero, List.getElem_cons_succ, Act.put, List.setIfInBounds_toArray, List.set_cons_zero, List.set_cons_succ]))
  (refine wpAnyH_ready (rs := [4]) (by decide +kernel) (by simp) ?_; refine AllReadyH.cons rfl (fun K hK => ?_) AllReadyH.nil; go_simp; (go_at_call 69; (with_reducible refine (CA1.out _ _ _ _ HB HS0 rfl hcp).mono ?_); rintro e w4 ⟨A1, m1, k1, rfl, hb⟩; replace HK := HK.up hb.hid; replace HR := HR.up hb.hid; replace HP := HP.up hb.hid; replace HB := HB.up hb.hid; replace HS1 := HS1.up hb.hid; replace hcell : w4.cell? ad = some (.slice D0 a.length c0) := (hb.cell hadl).trans hcell; replace hcell1 : w4.cell? ⟨ad.block, ad.off + 1, none⟩ = some (.slice D1 d'.length c1) := (hb.cell (p := ⟨ad.block, ad.off + 1, none⟩) hadl).trans hcell1; have KS : Hid (∀ v : Value, (w4.setCell ⟨pp, 0, none⟩ v).cell? ⟨w.heap.size, 0, none⟩ = some (.slice A n c) ∧ (w4.setCell ⟨pp, 0, none⟩ v).cell? ⟨w.heap.size, 1, none⟩ = some (.slice B m d) ∧ (w4.setCell ⟨pp, 0, none⟩ v).cell? ad = some (.slice D0 a.length c0)) := fun v => ⟨(World.cell?_setCell_far _ _ _ _ hkp).trans HK.c0, (World.cell?_setCell_far _ _ _ _ hkp).trans HK.c1, (World.cell?_setCell_far _ _ _ _ hap).trans hcell⟩; clear hp_f0; have hp_f0 := HP.f0; have hp_0 := HP.c0); (try (go_wp2_with fail)); refine hK.out _ _ ?_ (fun hHeld => ?_); (focus ((try dsimp only); (first | (with_reducible exact ⟨HK.c0, HK.c1, hcell⟩) | exact KS.out _))); clear hK K; (try simp only [List.getElem_toArray, List.getElem_cons_zero, List.getElem_cons_succ, Act.put, List.setIfInBounds_toArray, List.set_cons_zero, List.set_cons_succ]))
  (refine wpAnyH_take (i := 5) (v := ?_) rfl (by decide +kernel) (by decide +kernel) (by decide +kernel) (fun _ _ _ h => h) (Or.inl ⟨by rfl, ?_⟩) (by assumption) ?_; rotate_left; (focus ((intro w hSw; (try dsimp only at hSw); go_simp); (try (with_reducible rfl)); done)); (try simp only [List.getElem_toArray, List.getElem_cons_zero, List.getElem_cons_succ, Act.put, List.setIfInBounds_toArray, List.set_cons_zero, List.set_cons_succ]))
  (refine wpAnyH_take (i := 6) (v := ?_) rfl (by decide +kernel) (by decide +kernel) (by decide +kernel) (fun _ _ _ h => h) (Or.inl ⟨by rfl, ?_⟩) (by assumption) ?_; rotate_left; (focus ((intro w hSw; (try dsimp only at hSw); go_simp); (try (with_reducible rfl)); done)); (try simp only [List.getElem_toArray, List.getElem_cons_zero, List.getElem_cons_succ, Act.put, List.setIfInBounds_toArray, List.set_cons_zero, List.set_cons_succ]))
  (refine wpAnyH_take (i := 7) (v := ?_) rfl (by decide +kernel) (by decide +kernel) (by decide +kernel) (fun _ _ _ h => h) (Or.inl ⟨by rfl, ?_⟩) (by assumption) ?_; rotate_left; (focus ((intro w hSw; (try dsimp only at hSw); go_simp); (try (with_reducible rfl)); done)); (try simp only [List.getElem_toArray, List.getElem_cons_zero, List.getElem_cons_succ, Act.put, List.setIfInBounds_toArray, List.set_cons_zero, List.set_cons_succ]))
  (refine wpAnyH_take (i := 8) (v := ?_) rfl (by decide +kernel) (by decide +kernel) (by decide +kernel) (fun _ _ _ h => h) (Or.inl ⟨by rfl, ?_⟩) (by assumption) ?_; rotate_left; (focus ((intro w hSw; (try dsimp only at hSw); go_simp); (try (with_reducible rfl)); done)); (try simp only [List.getElem_toArray, List.getElem_cons_zero, List.getElem_cons_succ, Act.put, List.setIfInBounds_toArray, List.set_cons_zero, List.set_cons_succ]))
  (refine wpAnyH_ready (rs := [9]) (by decide +kernel) (by simp) ?_; refine AllReadyH.cons rfl (fun K hK => ?_) AllReadyH.nil; go_simp; refine hK.out _ _ ?_ (fun hHeld => ?_); (focus ((try dsimp only); (first | (with_reducible exact ⟨HK.c0, HK.c1, hcell⟩) | exact KS.out _))); clear hK K; (try simp only [List.getElem_toArray, List.getElem_cons_zero, List.getElem_cons_succ, Act.put, List.setIfInBounds_toArray, List.set_cons_zero, List.set_cons_succ]))
  (refine wpAnyH_take (i := 10) (v := ?_) rfl (by decide +kernel) (by decide +kernel) (by decide +kernel) (fun _ _ _ h => h) (Or.inl ⟨by rfl, ?_⟩) (by assumption) ?_; rotate_left; (focus ((intro w hSw; (try dsimp only at hSw); go_simp); (try (with_reducible rfl)); done)); (try simp only [List.getElem_toArray, List.getElem_cons_zero, List.getElem_cons_succ, Act.put, List.setIfInBounds_toArray, List.set_cons_zero, List.set_cons_succ]))
  refine wpAnyH_done (by decide +kernel) ?_ _
  go_upto_region 9 with fail
  refine kwp_named ?_
  intro W5 hW5
  have HOLD := HP.c0
  replace HP : At W5 pp [.slice A1 m1 k1, .slice none 0 0, .string ⟨#[49]⟩] := by rw [hW5]; exact HP.put (i := 0) (by simp) _
  replace HR : At W5 (w.heap.size + 1) [.slice none 0 0, .slice none 0 0, .string ⟨#[]⟩] := by rw [hW5]; exact HR.far hrp _
  replace HK : At W5 w.heap.size [.slice A n c, .slice B m d] := by rw [hW5]; exact HK.far hkp _
  replace HB : Bel w W5 := by rw [hW5]; exact Below.setCell HB hpw _
  replace hcell1 : W5.cell? ⟨ad.block, ad.off + 1, none⟩ = some (.slice D1 d'.length c1) := by rw [hW5]; exact (World.cell?_setCell_far _ _ (⟨ad.block, ad.off + 1, none⟩ : Addr) _ hap).trans hcell1
  replace HS1 : Ss W5 D1 d' := by rw [hW5]; exact ss_put HS1 HOLD _
  clear hW5 HOLD hp_f0 hp_0 KS hcell hadl hb HS0
  have hl0 : d'.length = 0 := by rw [hne]; rfl
  rw [hl0] at hcell1
  have hr_f0 := HR.f0; have hr_f1 := HR.f1; have hr_f2 := HR.f2; have hr_0 := HR.c0; have hr_1 := HR.c1; have hr_2 := HR.c2; have hr_l := HR.lt
  go_wp2_with fail
  have hs : w.heap.size ≤ w.heap.size + 1 := Nat.le_succ _
  refine bodyPost_ret (v := .tuple #[.agg #[.slice none 0 0, .slice none 0 0, .string ⟨#[]⟩], .bool false]) (by simp [results, Tryz.results43, go_sem, hr_0, hr_1, hr_2, hr_l]) rfl ⟨_, _, _, _, _, _, _, rfl, kbelow3 HB hs _ _ _⟩
set_option maxHeartbeats 8000000 in
theorem part_two_f0 {b : Bool} (hne : d' ≠ []) (h2 : Ss w D l) (hj : j = l.length) (hjl : j ≤ 1000000) (hc : cutBy perB l = [a, d']) (hau : ∀ x ∈ d', x.size ≤ 1000000) (CA1 : Hid (RAtoms w A B n c m d a (fun W => AtomsB W false))) (CA2 : Hid (RAtoms w A B n c m d (headD d').2 (fun W => AtomsB W b))) :
    Calls Tryz.prog 43 #[.agg #[.slice A n c, .slice B m d], .slice D j g] w (PartR w (none)) := by
  obtain ⟨W1, hW1⟩ : ∃ X, X = (w.alloc (.cells #[.slice A n c, .slice B m d] 48)).alloc (.cells #[.slice none 0 0, .slice none 0 0, .string ⟨#[]⟩] 86) := ⟨_, rfl⟩
  have HK : At W1 w.heap.size [.slice A n c, .slice B m d] := by rw [hW1]; exact (at_new0 _ _ _).al _
  have HR : At W1 (w.heap.size + 1) [.slice none 0 0, .slice none 0 0, .string ⟨#[]⟩] := by rw [hW1]; exact at_new1 _ _ _ _
  have HB : Bel w W1 := by rw [hW1]; exact ((Bel.refl w).al _).al _
  have HB0 : Hid (Below w.heap.size w W1) := HB
  have CC : Hid (Calls Tryz.prog 42 #[.slice D j g, .string ⟨#[112, 101, 114]⟩] W1 (ListsC W1 [a, d'])) := hc ▸ rcut_any (t := perB) (h2.up HB0) hj hjl
  have HW := khide hW1
  clear hW1 h2 hj hjl hc HB0
  go_enter Tryz.func43, Tryz.ntmps43
  go_upto_region 1 with fail
  rw [← HW.out]
  go_upto_region 6 with (first | (go_at_call 42; (with_reducible refine (CC.out).mono ?_); rintro e w2 ⟨ad, cc, rfl, hss, hcap, hb2⟩; replace HK := HK.up hb2; replace HR := HR.up hb2; replace HB := HB.up hb2) | fail)
  obtain ⟨ad', D0, c0, e0, hab, hc0, hs0, -⟩ := hss.out.at_ (k := 0) (by simp)
  injection e0 with e0
  subst e0
  have hcp : a.length ≤ c0 := hcap 0 _ _ _ (by simp) hc0
  rw [addr_zero] at hc0
  replace hc0 : w2.cell? ad = some (.slice D0 a.length c0) := hc0
  have HS0 : Ss w2 D0 a := hs0
  obtain ⟨ad2, D1, c1, e1, hab1, hc1, hs1, -⟩ := hss.out.at_ (k := 1) (by simp)
  injection e1 with e1
  subst e1
  have hcp1 : d'.length ≤ c1 := hcap 1 _ _ _ (by simp) hc1
  rw [← add_one'] at hc1
  replace hc1 : w2.cell? ⟨ad.block, ad.off + 1, none⟩ = some (.slice D1 d'.length c1) := hc1
  have HS1 : Ss w2 D1 d' := hs1
  have hkl := HK.lt
  have hrl := HR.lt
  refine kwp_named ?_
  intro W3 hW3
  have HP : At W3 w2.heap.size [.slice none 0 0, .slice none 0 0, .string ⟨#[49]⟩] := by rw [hW3]; exact at_new0 _ _ _
  have HBC : Hid (Bel w2 W3) := by rw [hW3]; exact (Bel.refl w2).al _
  have hcell : W3.cell? ad = some (.slice D0 a.length c0) := (HBC.out.cell hab).trans hc0
  have hcell1 : W3.cell? ⟨ad.block, ad.off + 1, none⟩ = some (.slice D1 d'.length c1) := (HBC.out.cell (p := ⟨ad.block, ad.off + 1, none⟩) hab).trans hc1
  replace HS0 : Ss W3 D0 a := HS0.up HBC.out
  have HS1w : Hid (Ss w2 D1 d') := HS1
  replace HS1 : Ss W3 D1 d' := HS1.up HBC.out
  replace HB : Bel w W3 := HB.up HBC.out
  replace HK := HK.up HBC.out
  replace HR := HR.up HBC.out
  have hadw : ad.block < W3.heap.size := Nat.lt_of_lt_of_le hab HBC.out.size
  have hpw : w.heap.size ≤ w2.heap.size := Nat.le_of_lt hkl
  have hkp : w2.heap.size ≠ w.heap.size := Nat.ne_of_gt hkl
  have hrp : w2.heap.size ≠ w.heap.size + 1 := Nat.ne_of_gt hrl
  have hap : w2.heap.size ≠ ad.block := fun e => Nat.ne_of_lt hab e.symm
  have HD1 : Hid (∀ ad0, D1 = some ad0 → 0 < d'.length → w2.heap.size ≠ ad0.block) := fun ad0 e0 hl e => by
    obtain ⟨ad5, e5, hb5, _⟩ := HS1w.out.out hl
    rw [e0] at e5
    injection e5 with e5
    rw [← e5, ← e] at hb5
    exact Nat.lt_irrefl _ hb5
  obtain ⟨pp, hpp⟩ : ∃ p, p = w2.heap.size := ⟨_, rfl⟩
  rw [← hpp] at HP hap hkp hrp hpw HD1
  rw [← hpp]
  clear hW3 hpp hss hcap hc0 hs0 hab CC HBC hkl hrl HS1w hc1 hs1 hab1 HW
  replace HK := HK.dr; replace HR := HR.dr; replace HP := HP.dr; replace HB := HB.dr; replace HS0 := HS0.dr; replace HS1 := HS1.dr
  refine wp_region_held_drew (S := fun w' => w'.cell? ⟨w.heap.size, 0, none⟩ = some (.slice A n c) ∧ w'.cell? ⟨w.heap.size, 1, none⟩ = some (.slice B m d) ∧ w'.cell? ad = some (.slice D0 a.length c0)) (by kernel_rfl) ?_ (fun hHeld => ?_)
  · exact ⟨HK.c0, HK.c1, hcell⟩
  have hadl : ad.block < W3.drew.heap.size := hadw
  replace hcell : W3.drew.cell? ad = some (.slice D0 a.length c0) := hcell
  replace hcell1 : W3.drew.cell? ⟨ad.block, ad.off + 1, none⟩ = some (.slice D1 d'.length c1) := hcell1
  have hp_f0 := HP.f0
  generalize W3.drew = Wd at *
  have hpl := HP.lt
  have hrl2 := HR.lt
  have hwb := HB.size
  obtain ⟨bs, hbs⟩ : ∃ b, b = Wd.heap.size := ⟨_, rfl⟩
  rw [← hbs] at hpl hrl2 hwb
  have HBS := khide hbs
  clear hbs
  (refine wpAnyH_take (i := 0) (v := ?_) rfl (by decide +kernel) (by decide +kernel) (by decide +kernel) (fun _ _ _ h => h) (Or.inl ⟨by rfl, ?_⟩) (by assumption) ?_; rotate_left; (focus ((intro w hSw; (try dsimp only at hSw); go_simp); (try (with_reducible rfl)); done)); (try simp only [List.getElem_toArray, List.getElem_cons_zero, List.getElem_cons_succ, Act.put, List.setIfInBounds_toArray, List.set_cons_zero, List.set_cons_succ]))
  (refine wpAnyH_take (i := 1) (v := ?_) rfl (by decide +kernel) (by decide +kernel) (by decide +kernel) (fun _ _ _ h => h) (Or.inl ⟨by rfl, ?_⟩) (by assumption) ?_; rotate_left; (focus ((intro w hSw; (try dsimp only at hSw); go_simp); (try (with_reducible rfl)); done)); (try simp only [List.getElem_toArray, List.getElem_cons_zero, List.getElem_cons_succ, Act.put, List.setIfInBounds_toArray, List.set_cons_zero, List.set_cons_succ]))
  (refine wpAnyH_take (i := 2) (v := ?_) rfl (by decide +kernel) (by decide +kernel) (by decide +kernel) (fun _ _ _ h => h) (Or.inl ⟨by rfl, ?_⟩) (by assumption) ?_; rotate_left; (focus ((intro w hSw; (try dsimp only at hSw); go_simp); (try (with_reducible rfl)); done)); (try simp only [List.getElem_toArray, List.getElem_cons_zero, List.getElem_cons_succ, Act.put, List.setIfInBounds_toArray, List.set_cons_zero, List.set_cons_succ]))
  (refine wpAnyH_take (i := 3) (v := ?_) rfl (by decide +kernel) (by decide +kernel) (by decide +kernel) (fun _ _ _ h => h) (Or.inl ⟨by rfl, ?_⟩) (by assumption) ?_; rotate_left; (focus ((intro w hSw; (try dsimp only at hSw); go_simp); (try (with_reducible rfl)); done)); (try simp only [List.getElem_toArray, List.getElem_cons_zero, List.getElem_cons_succ, Act.put, List.setIfInBounds_toArray, List.set_cons_zero, List.set_cons_succ]))
  (refine wpAnyH_ready (rs := [4]) (by decide +kernel) (by simp) ?_; refine AllReadyH.cons rfl (fun K hK => ?_) AllReadyH.nil; go_simp; (go_at_call 69; (with_reducible refine (CA1.out _ _ _ _ HB HS0 rfl hcp).mono ?_); rintro e w4 ⟨A1, m1, k1, rfl, hb⟩; replace HK := HK.up hb.hid; replace HR := HR.up hb.hid; replace HP := HP.up hb.hid; replace HB := HB.up hb.hid; replace HS1 := HS1.up hb.hid; replace hcell : w4.cell? ad = some (.slice D0 a.length c0) := (hb.cell hadl).trans hcell; replace hcell1 : w4.cell? ⟨ad.block, ad.off + 1, none⟩ = some (.slice D1 d'.length c1) := (hb.cell (p := ⟨ad.block, ad.off + 1, none⟩) hadl).trans hcell1; have KS : Hid (∀ v : Value, (w4.setCell ⟨pp, 0, none⟩ v).cell? ⟨w.heap.size, 0, none⟩ = some (.slice A n c) ∧ (w4.setCell ⟨pp, 0, none⟩ v).cell? ⟨w.heap.size, 1, none⟩ = some (.slice B m d) ∧ (w4.setCell ⟨pp, 0, none⟩ v).cell? ad = some (.slice D0 a.length c0)) := fun v => ⟨(World.cell?_setCell_far _ _ _ _ hkp).trans HK.c0, (World.cell?_setCell_far _ _ _ _ hkp).trans HK.c1, (World.cell?_setCell_far _ _ _ _ hap).trans hcell⟩; clear hp_f0; have hp_f0 := HP.f0; have hp_0 := HP.c0); (try (go_wp2_with fail)); refine hK.out _ _ ?_ (fun hHeld => ?_); (focus ((try dsimp only); (first | (with_reducible exact ⟨HK.c0, HK.c1, hcell⟩) | exact KS.out _))); clear hK K; (try simp only [List.getElem_toArray, List.getElem_cons_zero, List.getElem_cons_succ, Act.put, List.setIfInBounds_toArray, List.set_cons_zero, List.set_cons_succ]))
  (refine wpAnyH_take (i := 5) (v := ?_) rfl (by decide +kernel) (by decide +kernel) (by decide +kernel) (fun _ _ _ h => h) (Or.inl ⟨by rfl, ?_⟩) (by assumption) ?_; rotate_left; (focus ((intro w hSw; (try dsimp only at hSw); go_simp); (try (with_reducible rfl)); done)); (try simp only [List.getElem_toArray, List.getElem_cons_zero, List.getElem_cons_succ, Act.put, List.setIfInBounds_toArray, List.set_cons_zero, List.set_cons_succ]))
  (refine wpAnyH_take (i := 6) (v := ?_) rfl (by decide +kernel) (by decide +kernel) (by decide +kernel) (fun _ _ _ h => h) (Or.inl ⟨by rfl, ?_⟩) (by assumption) ?_; rotate_left; (focus ((intro w hSw; (try dsimp only at hSw); go_simp); (try (with_reducible rfl)); done)); (try simp only [List.getElem_toArray, List.getElem_cons_zero, List.getElem_cons_succ, Act.put, List.setIfInBounds_toArray, List.set_cons_zero, List.set_cons_succ]))
  (refine wpAnyH_take (i := 7) (v := ?_) rfl (by decide +kernel) (by decide +kernel) (by decide +kernel) (fun _ _ _ h => h) (Or.inl ⟨by rfl, ?_⟩) (by assumption) ?_; rotate_left; (focus ((intro w hSw; (try dsimp only at hSw); go_simp); (try (with_reducible rfl)); done)); (try simp only [List.getElem_toArray, List.getElem_cons_zero, List.getElem_cons_succ, Act.put, List.setIfInBounds_toArray, List.set_cons_zero, List.set_cons_succ]))
  (refine wpAnyH_take (i := 8) (v := ?_) rfl (by decide +kernel) (by decide +kernel) (by decide +kernel) (fun _ _ _ h => h) (Or.inl ⟨by rfl, ?_⟩) (by assumption) ?_; rotate_left; (focus ((intro w hSw; (try dsimp only at hSw); go_simp); (try (with_reducible rfl)); done)); (try simp only [List.getElem_toArray, List.getElem_cons_zero, List.getElem_cons_succ, Act.put, List.setIfInBounds_toArray, List.set_cons_zero, List.set_cons_succ]))
  (refine wpAnyH_ready (rs := [9]) (by decide +kernel) (by simp) ?_; refine AllReadyH.cons rfl (fun K hK => ?_) AllReadyH.nil; go_simp; refine hK.out _ _ ?_ (fun hHeld => ?_); (focus ((try dsimp only); (first | (with_reducible exact ⟨HK.c0, HK.c1, hcell⟩) | exact KS.out _))); clear hK K; (try simp only [List.getElem_toArray, List.getElem_cons_zero, List.getElem_cons_succ, Act.put, List.setIfInBounds_toArray, List.set_cons_zero, List.set_cons_succ]))
  (refine wpAnyH_take (i := 10) (v := ?_) rfl (by decide +kernel) (by decide +kernel) (by decide +kernel) (fun _ _ _ h => h) (Or.inl ⟨by rfl, ?_⟩) (by assumption) ?_; rotate_left; (focus ((intro w hSw; (try dsimp only at hSw); go_simp); (try (with_reducible rfl)); done)); (try simp only [List.getElem_toArray, List.getElem_cons_zero, List.getElem_cons_succ, Act.put, List.setIfInBounds_toArray, List.set_cons_zero, List.set_cons_succ]))
  refine wpAnyH_done (by decide +kernel) ?_ _
  go_upto_region 9 with fail
  refine kwp_named ?_
  intro W5 hW5
  have HOLD := HP.c0
  replace HP : At W5 pp [.slice A1 m1 k1, .slice none 0 0, .string ⟨#[49]⟩] := by rw [hW5]; exact HP.put (i := 0) (by simp) _
  replace HR : At W5 (w.heap.size + 1) [.slice none 0 0, .slice none 0 0, .string ⟨#[]⟩] := by rw [hW5]; exact HR.far hrp _
  replace HK : At W5 w.heap.size [.slice A n c, .slice B m d] := by rw [hW5]; exact HK.far hkp _
  replace HB : Bel w W5 := by rw [hW5]; exact Below.setCell HB hpw _
  replace hcell1 : W5.cell? ⟨ad.block, ad.off + 1, none⟩ = some (.slice D1 d'.length c1) := by rw [hW5]; exact (World.cell?_setCell_far _ _ (⟨ad.block, ad.off + 1, none⟩ : Addr) _ hap).trans hcell1
  replace HS1 : Ss W5 D1 d' := by rw [hW5]; exact ss_put HS1 HOLD _
  clear hW5 HOLD hp_f0 hp_0 KS hcell hadl hb HS0
  obtain ⟨x, dl, rfl⟩ : ∃ x dl, d' = x :: dl := by
    cases d' with
    | nil => exact absurd rfl hne
    | cons x dl => exact ⟨x, dl, rfl⟩
  obtain ⟨adx, rfl, hxb, hxc⟩ := HS1.out (by simp)
  have hx0 : W5.cell? adx = some (.string x) := by have h9 := hxc 0 x rfl; rwa [addr_zero] at h9
  have hpx : pp ≠ adx.block := HD1.out adx rfl (by simp)
  obtain ⟨bn, hbn⟩ : ∃ b, numW x.data.toList = b := ⟨_, rfl⟩
  have CN : Hid (∀ W : World, Calls Tryz.prog 70 #[.string x] W fun e w' => e = .returned (.bool bn) ∧ W = w') := fun W => hbn ▸ rnumber_any (hau x (by simp)) W
  have HBN := khide hbn
  have HZ : Hid ((x :: dl).length = dl.length + 1) := rfl
  obtain ⟨z, hz⟩ : ∃ z, (x :: dl).length = z := ⟨_, rfl⟩
  have z0 : 0 < z := by rw [← hz]; simp
  have z1 : (0 : Int) < (z : Int) := by omega
  have z2 : 1 ≤ z := z0
  have z5 : (1 : Int) ≤ (z : Int) := by omega
  have z3 : decide ((0 : Int) < (z : Int)) = true := decide_eq_true z1
  have z4 : ((z : Int) == 0) = false := by rw [beq_eq_false_iff_ne]; omega
  rw [hz] at hcell1 hcp1 HZ
  have HZZ := khide hz
  clear hbn hxc hz hau HD1 hne
  obtain ⟨y, hy⟩ : ∃ y, (x.toList != [49]) = y := ⟨_, rfl⟩
  obtain ⟨kb, hkb⟩ : ∃ k, (bn && y) = k := ⟨_, rfl⟩
  have HE : Hid (headD (x :: dl) = if kb = true then (x, dl) else (oneB, x :: dl)) := hkb ▸ headD_kb HBN.out hy
  clear HBN
  go_upto_region 10 with fail
  go_cut [61] from 47 to 61 (fun v w' => v = .bool kb ∧ w' = W5)
  case first =>
    have HSy : (x.toList == [49]) = !y := by rw [← hy, bne, Bool.not_not]
    cases bn <;> cases y
    all_goals (
      simp only [Bool.not_true, Bool.not_false] at HSy
      go_wp2_with (first | (go_at_call 70; (with_reducible refine (CN.out _).mono ?_); rintro e w6 ⟨rfl, rfl⟩) | fail)
      go_meet
      case rel => rw [← hkb]; exact ⟨by first | rfl | simp, rfl⟩)
  case rest =>
  obtain ⟨rfl, rfl⟩ := hcut
  clear hkb CN hy
  go_upto_if 61 with fail
  go_cut [9] from 62 to 71 (fun dv w' => ∃ D2 j2 g2, dv = .slice D2 j2 g2 ∧ j2 = (headD (x :: dl)).2.length ∧ j2 ≤ g2 ∧ Ss w' D2 (headD (x :: dl)).2 ∧ At w' pp [.slice A1 m1 k1, .slice none 0 0, .string (headD (x :: dl)).1] ∧ At w' w.heap.size [.slice A n c, .slice B m d] ∧ At w' (w.heap.size + 1) [.slice none 0 0, .slice none 0 0, .string ⟨#[]⟩] ∧ Bel w w')
  case first =>
    cases kb with
    | false =>
      have E9 : Hid (headD (x :: dl) = (oneB, x :: dl)) := HE.out.trans (if_neg (by simp))
      clear HE
      go_wp2_with fail
      go_meet
      case rel => rw [E9.out]; exact ⟨some adx, z, c1, rfl, HZZ.out.symm, hcp1, HS1, HP, HK, HR, HB⟩
    | true =>
      have E9 : Hid (headD (x :: dl) = (x, dl)) := HE.out.trans (if_pos rfl)
      clear HE
      go_upto_region 11 with fail
      replace HP := HP.dr; replace HB := HB.dr; replace HS1 := HS1.dr; replace HK := HK.dr; replace HR := HR.dr
      have KX : Hid (∀ v : Value, (wc.drew.setCell ⟨pp, 2, none⟩ v).cell? adx = some (.string x)) := fun v => (World.cell?_setCell_far _ _ _ _ hpx).trans hx0
      have hp_f2 := HP.f2; have hp_2 := HP.c2; have hp_l := HP.lt
      obtain ⟨D9, hD9⟩ : ∃ D9, (if c1 = 1 then some adx else some (⟨adx.block, adx.off + 1, none⟩ : Addr)) = D9 := ⟨_, rfl⟩
      refine wp_region_held_drew (S := fun w' => w'.cell? adx = some (.string x)) (by kernel_rfl) ?_ (fun hHeld => ?_)
      · exact hx0
      (refine wpAnyH_take (i := 0) (v := ?_) rfl (by decide +kernel) (by decide +kernel) (by decide +kernel) (fun _ _ _ h => h) (Or.inl ⟨by rfl, ?_⟩) (by assumption) ?_; rotate_left; (focus ((intro w hSw; (try dsimp only at hSw); go_simp); (try (with_reducible rfl)); done)); (try simp only [List.getElem_toArray, List.getElem_cons_zero, List.getElem_cons_succ, Act.put, List.setIfInBounds_toArray, List.set_cons_zero, List.set_cons_succ]))
      (refine wpAnyH_take (i := 1) (v := ?_) rfl (by decide +kernel) (by decide +kernel) (by decide +kernel) (fun _ _ _ h => h) (Or.inl ⟨by rfl, ?_⟩) (by assumption) ?_; rotate_left; (focus ((intro w hSw; (try dsimp only at hSw); go_simp); (try (with_reducible rfl)); done)); (try simp only [List.getElem_toArray, List.getElem_cons_zero, List.getElem_cons_succ, Act.put, List.setIfInBounds_toArray, List.set_cons_zero, List.set_cons_succ]))
      (refine wpAnyH_take (i := 2) (v := ?_) rfl (by decide +kernel) (by decide +kernel) (by decide +kernel) (fun _ _ _ h => h) (Or.inl ⟨by rfl, ?_⟩) (by assumption) ?_; rotate_left; (focus ((intro w hSw; (try dsimp only at hSw); go_simp); (try (with_reducible rfl)); done)); (try simp only [List.getElem_toArray, List.getElem_cons_zero, List.getElem_cons_succ, Act.put, List.setIfInBounds_toArray, List.set_cons_zero, List.set_cons_succ]))
      (refine wpAnyH_take (i := 3) (v := ?_) rfl (by decide +kernel) (by decide +kernel) (by decide +kernel) (fun _ _ _ h => h) (Or.inl ⟨by rfl, ?_⟩) (by assumption) ?_; rotate_left; (focus ((intro w hSw; (try dsimp only at hSw); go_simp); (try (with_reducible rfl)); done)); (try simp only [List.getElem_toArray, List.getElem_cons_zero, List.getElem_cons_succ, Act.put, List.setIfInBounds_toArray, List.set_cons_zero, List.set_cons_succ]))
      (refine wpAnyH_take (i := 4) (v := ?_) rfl (by decide +kernel) (by decide +kernel) (by decide +kernel) (fun _ _ _ h => h) (Or.inl ⟨by rfl, ?_⟩) (by assumption) ?_; rotate_left; (focus ((intro w hSw; (try dsimp only at hSw); go_simp); (try (with_reducible rfl)); done)); (try simp only [List.getElem_toArray, List.getElem_cons_zero, List.getElem_cons_succ, Act.put, List.setIfInBounds_toArray, List.set_cons_zero, List.set_cons_succ]))
      (refine wpAnyH_take (i := 5) (v := ?_) rfl (by decide +kernel) (by decide +kernel) (by decide +kernel) (fun _ _ _ h => h) (Or.inl ⟨by rfl, ?_⟩) (by assumption) ?_; rotate_left; (focus ((intro w hSw; (try dsimp only at hSw); go_simp); (try (with_reducible rfl)); done)); (try simp only [List.getElem_toArray, List.getElem_cons_zero, List.getElem_cons_succ, Act.put, List.setIfInBounds_toArray, List.set_cons_zero, List.set_cons_succ]))
      (refine wpAnyH_ready (rs := [6]) (by decide +kernel) (by simp) ?_; refine AllReadyH.cons rfl (fun K hK => ?_) AllReadyH.nil; go_simp; refine hK.out _ _ ?_ (fun hHeld => ?_); (focus ((try dsimp only); (first | exact hx0 | exact KX.out _))); clear hK K; (try simp only [List.getElem_toArray, List.getElem_cons_zero, List.getElem_cons_succ, Act.put, List.setIfInBounds_toArray, List.set_cons_zero, List.set_cons_succ]))
      (refine wpAnyH_take (i := 7) (v := ?_) rfl (by decide +kernel) (by decide +kernel) (by decide +kernel) (fun _ _ _ h => h) (Or.inl ⟨by rfl, ?_⟩) (by assumption) ?_; rotate_left; (focus ((intro w hSw; (try dsimp only at hSw); go_simp); (try (with_reducible rfl)); done)); (try simp only [List.getElem_toArray, List.getElem_cons_zero, List.getElem_cons_succ, Act.put, List.setIfInBounds_toArray, List.set_cons_zero, List.set_cons_succ]))
      refine wpAnyH_done (by decide +kernel) ?_ _
      go_wp2_with fail
      go_meet
      case rel =>
        rw [E9.out]
        refine ⟨D9, z - 1, c1 - 1, rfl, ?_, ?_, ?_, HP.put (i := 2) (by simp) _, HK.far hkp _, HR.far hrp _, Below.setCell HB hpw _⟩
        · show z - 1 = dl.length; have h9 := HZ.out; omega
        · omega
        · have h9 := HS1.sub (t := 1) (g := c1) (by rw [HZZ.out]; exact hcp1)
          have h8 : Ss wc.drew (if c1 = 1 then some adx else some ⟨adx.block, adx.off + 1, none⟩) dl := by rw [add_one']; exact h9
          have h7 := ss_put2 h8 HP.c2 (fun ad0 e0 => by
            by_cases h1 : c1 = 1
            · rw [if_pos h1] at e0; injection e0 with e0; rw [← e0]; exact hpx
            · rw [if_neg h1] at e0; injection e0 with e0; rw [← e0]; exact hpx) (.string x)
          rw [hD9] at h7
          exact h7
  case rest =>
    obtain ⟨D2, j2, g2, rfl, hj2, hjg2, HS2, HP, HK, HR, HB⟩ := hcut
    replace hj2 := khide hj2
    replace hjg2 := khide hjg2
    obtain ⟨tt, htt⟩ : ∃ t, (headD (x :: dl)).1 = t := ⟨_, rfl⟩
    rw [htt] at HP
    have HTT := khide htt
    clear htt HS1 hx0 hpx hcell1 hap
    have hk_0 := HK.c0; have hk_1 := HK.c1; have hk_l := HK.lt; have hp_f1 := HP.f1; have hp_1 := HP.c1; have hp_l := HP.lt
    obtain ⟨b2, hb2⟩ : ∃ b, b = wc.heap.size := ⟨_, rfl⟩
    have hpb : pp < b2 := by rw [hb2]; exact HP.lt
    have hrb : w.heap.size + 1 < b2 := by rw [hb2]; exact HR.lt
    have hwb2 : w.heap.size ≤ b2 := by rw [hb2]; exact HB.size
    have HB2 := khide hb2
    clear hb2
    go_upto_region 16 with (first | (go_at_call 69; (with_reducible refine (CA2.out _ _ _ _ HB HS2 hj2.out hjg2.out).mono ?_); rintro e w7 ⟨A2, m2, k2, rfl, hb⟩; clear hk_0 hk_1 hk_l hp_f1 hp_1 hp_l; replace HK := HK.up hb.hid; replace HP := HP.up hb.hid; replace HR := HR.up hb.hid; replace HB := HB.up hb.hid; have hk_0 := HK.c0; have hk_1 := HK.c1; have hk_l := HK.lt; have hp_f1 := HP.f1; have hp_1 := HP.c1; have hp_l := HP.lt) | fail)
    refine kwp_named ?_
    intro W8 hW8
    replace HP : At W8 pp [.slice A1 m1 k1, .slice A2 m2 k2, .string tt] := by rw [hW8]; exact HP.put (i := 1) (by simp) _
    replace HR : At W8 (w.heap.size + 1) [.slice none 0 0, .slice none 0 0, .string ⟨#[]⟩] := by rw [hW8]; exact HR.far hrp _
    replace HB : Bel w W8 := by rw [hW8]; exact Below.setCell HB hpw _
    clear hW8 hk_0 hk_1 hk_l hp_f1 hp_1 hp_l hb HK HS2
    replace HR := HR.dr; replace HP := HP.dr; replace HB := HB.dr
    refine wp_region_held_drew (S := fun w' => w'.cell? ⟨pp, 0, none⟩ = some (.slice A1 m1 k1) ∧ w'.cell? ⟨pp, 1, none⟩ = some (.slice A2 m2 k2) ∧ w'.cell? ⟨pp, 2, none⟩ = some (.string tt)) (by kernel_rfl) ?_ (fun hHeld => ?_)
    · exact ⟨HP.c0, HP.c1, HP.c2⟩
    have hr_f0 := HR.f0; have hr_f1 := HR.f1; have hr_f2 := HR.f2; have hr_0 := HR.c0; have hr_1 := HR.c1; have hr_2 := HR.c2; have hr_l := HR.lt
    have hrq : w.heap.size + 1 ≠ pp := fun e => hrp e.symm
    generalize W8.drew = Wd at *
    have KS : Hid (∀ x y z : Value, (((Wd.setCell ⟨w.heap.size + 1, 0, none⟩ x).setCell ⟨w.heap.size + 1, 1, none⟩ y).setCell ⟨w.heap.size + 1, 2, none⟩ z).cell? ⟨pp, 0, none⟩ = some (.slice A1 m1 k1) ∧ (((Wd.setCell ⟨w.heap.size + 1, 0, none⟩ x).setCell ⟨w.heap.size + 1, 1, none⟩ y).setCell ⟨w.heap.size + 1, 2, none⟩ z).cell? ⟨pp, 1, none⟩ = some (.slice A2 m2 k2) ∧ (((Wd.setCell ⟨w.heap.size + 1, 0, none⟩ x).setCell ⟨w.heap.size + 1, 1, none⟩ y).setCell ⟨w.heap.size + 1, 2, none⟩ z).cell? ⟨pp, 2, none⟩ = some (.string tt)) := fun x y z => by
      have h5 := ((HP.far hrq (i := 0) x).far hrq (i := 1) y).far hrq (i := 2) z
      exact ⟨h5.c0, h5.c1, h5.c2⟩
    (refine wpAnyH_take (i := 0) (v := ?_) rfl (by decide +kernel) (by decide +kernel) (by decide +kernel) (fun _ _ _ h => h) (Or.inl ⟨by rfl, ?_⟩) (by assumption) ?_; rotate_left; (focus ((intro w hSw; (try dsimp only at hSw); go_simp); (try (with_reducible rfl)); done)); (try simp only [List.getElem_toArray, List.getElem_cons_zero, List.getElem_cons_succ, Act.put, List.setIfInBounds_toArray, List.set_cons_zero, List.set_cons_succ]))
    (refine wpAnyH_take (i := 1) (v := ?_) rfl (by decide +kernel) (by decide +kernel) (by decide +kernel) (fun _ _ _ h => h) (Or.inl ⟨by rfl, ?_⟩) (by assumption) ?_; rotate_left; (focus ((intro w hSw; (try dsimp only at hSw); go_simp); (try (with_reducible rfl)); done)); (try simp only [List.getElem_toArray, List.getElem_cons_zero, List.getElem_cons_succ, Act.put, List.setIfInBounds_toArray, List.set_cons_zero, List.set_cons_succ]))
    (refine wpAnyH_take (i := 2) (v := ?_) rfl (by decide +kernel) (by decide +kernel) (by decide +kernel) (fun _ _ _ h => h) (Or.inl ⟨by rfl, ?_⟩) (by assumption) ?_; rotate_left; (focus ((intro w hSw; (try dsimp only at hSw); go_simp); (try (with_reducible rfl)); done)); (try simp only [List.getElem_toArray, List.getElem_cons_zero, List.getElem_cons_succ, Act.put, List.setIfInBounds_toArray, List.set_cons_zero, List.set_cons_succ]))
    (refine wpAnyH_take (i := 3) (v := undef) rfl (by decide +kernel) (by decide +kernel) (by decide +kernel) (fun _ _ _ h => h) (Or.inr ⟨by rfl, rfl⟩) (by assumption) ?_; (try simp only [List.getElem_toArray, List.getElem_cons_zero, List.getElem_cons_succ, Act.put, List.setIfInBounds_toArray, List.set_cons_zero, List.set_cons_succ]))
    (refine wpAnyH_take (i := 4) (v := ?_) rfl (by decide +kernel) (by decide +kernel) (by decide +kernel) (fun _ _ _ h => h) (Or.inl ⟨by rfl, ?_⟩) (by assumption) ?_; rotate_left; (focus ((intro w hSw; (try dsimp only at hSw); go_simp); (try (with_reducible rfl)); done)); (try simp only [List.getElem_toArray, List.getElem_cons_zero, List.getElem_cons_succ, Act.put, List.setIfInBounds_toArray, List.set_cons_zero, List.set_cons_succ]))
    (refine wpAnyH_take (i := 5) (v := ?_) rfl (by decide +kernel) (by decide +kernel) (by decide +kernel) (fun _ _ _ h => h) (Or.inl ⟨by rfl, ?_⟩) (by assumption) ?_; rotate_left; (focus ((intro w hSw; (try dsimp only at hSw); go_simp); (try (with_reducible rfl)); done)); (try simp only [List.getElem_toArray, List.getElem_cons_zero, List.getElem_cons_succ, Act.put, List.setIfInBounds_toArray, List.set_cons_zero, List.set_cons_succ]))
    (refine wpAnyH_take (i := 6) (v := undef) rfl (by decide +kernel) (by decide +kernel) (by decide +kernel) (fun _ _ _ h => h) (Or.inr ⟨by rfl, rfl⟩) (by assumption) ?_; (try simp only [List.getElem_toArray, List.getElem_cons_zero, List.getElem_cons_succ, Act.put, List.setIfInBounds_toArray, List.set_cons_zero, List.set_cons_succ]))
    (refine wpAnyH_take (i := 7) (v := undef) rfl (by decide +kernel) (by decide +kernel) (by decide +kernel) (fun _ _ _ h => h) (Or.inr ⟨by rfl, rfl⟩) (by assumption) ?_; (try simp only [List.getElem_toArray, List.getElem_cons_zero, List.getElem_cons_succ, Act.put, List.setIfInBounds_toArray, List.set_cons_zero, List.set_cons_succ]))
    (refine wpAnyH_take (i := 8) (v := undef) rfl (by decide +kernel) (by decide +kernel) (by decide +kernel) (fun _ _ _ h => h) (Or.inr ⟨by rfl, rfl⟩) (by assumption) ?_; (try simp only [List.getElem_toArray, List.getElem_cons_zero, List.getElem_cons_succ, Act.put, List.setIfInBounds_toArray, List.set_cons_zero, List.set_cons_succ]))
    (refine wpAnyH_take (i := 9) (v := undef) rfl (by decide +kernel) (by decide +kernel) (by decide +kernel) (fun _ _ _ h => h) (Or.inr ⟨by rfl, rfl⟩) (by assumption) ?_; (try simp only [List.getElem_toArray, List.getElem_cons_zero, List.getElem_cons_succ, Act.put, List.setIfInBounds_toArray, List.set_cons_zero, List.set_cons_succ]))
    (refine wpAnyH_take (i := 10) (v := undef) rfl (by decide +kernel) (by decide +kernel) (by decide +kernel) (fun _ _ _ h => h) (Or.inr ⟨by rfl, rfl⟩) (by assumption) ?_; (try simp only [List.getElem_toArray, List.getElem_cons_zero, List.getElem_cons_succ, Act.put, List.setIfInBounds_toArray, List.set_cons_zero, List.set_cons_succ]))
    (refine wpAnyH_take (i := 11) (v := undef) rfl (by decide +kernel) (by decide +kernel) (by decide +kernel) (fun _ _ _ h => h) (Or.inr ⟨by rfl, rfl⟩) (by assumption) ?_; (try simp only [List.getElem_toArray, List.getElem_cons_zero, List.getElem_cons_succ, Act.put, List.setIfInBounds_toArray, List.set_cons_zero, List.set_cons_succ]))
    (refine wpAnyH_take (i := 12) (v := undef) rfl (by decide +kernel) (by decide +kernel) (by decide +kernel) (fun _ _ _ h => h) (Or.inr ⟨by rfl, rfl⟩) (by assumption) ?_; (try simp only [List.getElem_toArray, List.getElem_cons_zero, List.getElem_cons_succ, Act.put, List.setIfInBounds_toArray, List.set_cons_zero, List.set_cons_succ]))
    (refine wpAnyH_take (i := 13) (v := undef) rfl (by decide +kernel) (by decide +kernel) (by decide +kernel) (fun _ _ _ h => h) (Or.inr ⟨by rfl, rfl⟩) (by assumption) ?_; (try simp only [List.getElem_toArray, List.getElem_cons_zero, List.getElem_cons_succ, Act.put, List.setIfInBounds_toArray, List.set_cons_zero, List.set_cons_succ]))
    (refine wpAnyH_take (i := 14) (v := ?_) rfl (by decide +kernel) (by decide +kernel) (by decide +kernel) (fun _ _ _ h => h) (Or.inl ⟨by rfl, ?_⟩) (by assumption) ?_; rotate_left; (focus ((intro w hSw; (try dsimp only at hSw); go_simp); (try (with_reducible rfl)); done)); (try simp only [List.getElem_toArray, List.getElem_cons_zero, List.getElem_cons_succ, Act.put, List.setIfInBounds_toArray, List.set_cons_zero, List.set_cons_succ]))
    (refine wpAnyH_ready (rs := [15]) (by decide +kernel) (by simp) ?_; refine AllReadyH.cons rfl (fun K hK => ?_) AllReadyH.nil; go_simp; refine hK.out _ _ ?_ (fun hHeld => ?_); (focus ((try dsimp only); (first | (with_reducible exact ⟨HP.c0, HP.c1, HP.c2⟩) | exact KS.out _ _ _))); clear hK K; (try simp only [List.getElem_toArray, List.getElem_cons_zero, List.getElem_cons_succ, Act.put, List.setIfInBounds_toArray, List.set_cons_zero, List.set_cons_succ]))
    (refine wpAnyH_take (i := 16) (v := ?_) rfl (by decide +kernel) (by decide +kernel) (by decide +kernel) (fun _ _ _ h => h) (Or.inl ⟨by rfl, ?_⟩) (by assumption) ?_; rotate_left; (focus ((intro w hSw; (try dsimp only at hSw); go_simp); (try (with_reducible rfl)); done)); (try simp only [List.getElem_toArray, List.getElem_cons_zero, List.getElem_cons_succ, Act.put, List.setIfInBounds_toArray, List.set_cons_zero, List.set_cons_succ]))
    refine wpAnyH_done (by decide +kernel) ?_ _
    go_wp2_with fail
    have hs : w.heap.size ≤ w.heap.size + 1 := Nat.le_succ _
    refine bodyPost_ret (v := .tuple #[.agg #[.slice A1 m1 k1, .slice A2 m2 k2, .string tt], .bool false]) (by simp [results, Tryz.results43, go_sem, hr_0, hr_1, hr_2, hr_l]) rfl ⟨_, _, _, _, _, _, _, rfl, kbelow3 HB hs _ _ _⟩
set_option maxHeartbeats 8000000 in
theorem part_two_f1 (hne : d' ≠ []) (h2 : Ss w D l) (hj : j = l.length) (hjl : j ≤ 1000000) (hc : cutBy perB l = [a, d']) (hau : ∀ x ∈ d', x.size ≤ 1000000) (CA1 : Hid (RAtoms w A B n c m d a (fun W => AtomsB W true))) (CA2 : Hid (RAtoms w A B n c m d (headD d').2 (fun W => AtomsB W false))) :
    Calls Tryz.prog 43 #[.agg #[.slice A n c, .slice B m d], .slice D j g] w (PartR w (none)) := by
  obtain ⟨W1, hW1⟩ : ∃ X, X = (w.alloc (.cells #[.slice A n c, .slice B m d] 48)).alloc (.cells #[.slice none 0 0, .slice none 0 0, .string ⟨#[]⟩] 86) := ⟨_, rfl⟩
  have HK : At W1 w.heap.size [.slice A n c, .slice B m d] := by rw [hW1]; exact (at_new0 _ _ _).al _
  have HR : At W1 (w.heap.size + 1) [.slice none 0 0, .slice none 0 0, .string ⟨#[]⟩] := by rw [hW1]; exact at_new1 _ _ _ _
  have HB : Bel w W1 := by rw [hW1]; exact ((Bel.refl w).al _).al _
  have HB0 : Hid (Below w.heap.size w W1) := HB
  have CC : Hid (Calls Tryz.prog 42 #[.slice D j g, .string ⟨#[112, 101, 114]⟩] W1 (ListsC W1 [a, d'])) := hc ▸ rcut_any (t := perB) (h2.up HB0) hj hjl
  have HW := khide hW1
  clear hW1 h2 hj hjl hc HB0
  go_enter Tryz.func43, Tryz.ntmps43
  go_upto_region 1 with fail
  rw [← HW.out]
  go_upto_region 6 with (first | (go_at_call 42; (with_reducible refine (CC.out).mono ?_); rintro e w2 ⟨ad, cc, rfl, hss, hcap, hb2⟩; replace HK := HK.up hb2; replace HR := HR.up hb2; replace HB := HB.up hb2) | fail)
  obtain ⟨ad', D0, c0, e0, hab, hc0, hs0, -⟩ := hss.out.at_ (k := 0) (by simp)
  injection e0 with e0
  subst e0
  have hcp : a.length ≤ c0 := hcap 0 _ _ _ (by simp) hc0
  rw [addr_zero] at hc0
  replace hc0 : w2.cell? ad = some (.slice D0 a.length c0) := hc0
  have HS0 : Ss w2 D0 a := hs0
  obtain ⟨ad2, D1, c1, e1, hab1, hc1, hs1, -⟩ := hss.out.at_ (k := 1) (by simp)
  injection e1 with e1
  subst e1
  have hcp1 : d'.length ≤ c1 := hcap 1 _ _ _ (by simp) hc1
  rw [← add_one'] at hc1
  replace hc1 : w2.cell? ⟨ad.block, ad.off + 1, none⟩ = some (.slice D1 d'.length c1) := hc1
  have HS1 : Ss w2 D1 d' := hs1
  have hkl := HK.lt
  have hrl := HR.lt
  refine kwp_named ?_
  intro W3 hW3
  have HP : At W3 w2.heap.size [.slice none 0 0, .slice none 0 0, .string ⟨#[49]⟩] := by rw [hW3]; exact at_new0 _ _ _
  have HBC : Hid (Bel w2 W3) := by rw [hW3]; exact (Bel.refl w2).al _
  have hcell : W3.cell? ad = some (.slice D0 a.length c0) := (HBC.out.cell hab).trans hc0
  have hcell1 : W3.cell? ⟨ad.block, ad.off + 1, none⟩ = some (.slice D1 d'.length c1) := (HBC.out.cell (p := ⟨ad.block, ad.off + 1, none⟩) hab).trans hc1
  replace HS0 : Ss W3 D0 a := HS0.up HBC.out
  have HS1w : Hid (Ss w2 D1 d') := HS1
  replace HS1 : Ss W3 D1 d' := HS1.up HBC.out
  replace HB : Bel w W3 := HB.up HBC.out
  replace HK := HK.up HBC.out
  replace HR := HR.up HBC.out
  have hadw : ad.block < W3.heap.size := Nat.lt_of_lt_of_le hab HBC.out.size
  have hpw : w.heap.size ≤ w2.heap.size := Nat.le_of_lt hkl
  have hkp : w2.heap.size ≠ w.heap.size := Nat.ne_of_gt hkl
  have hrp : w2.heap.size ≠ w.heap.size + 1 := Nat.ne_of_gt hrl
  have hap : w2.heap.size ≠ ad.block := fun e => Nat.ne_of_lt hab e.symm
  have HD1 : Hid (∀ ad0, D1 = some ad0 → 0 < d'.length → w2.heap.size ≠ ad0.block) := fun ad0 e0 hl e => by
    obtain ⟨ad5, e5, hb5, _⟩ := HS1w.out.out hl
    rw [e0] at e5
    injection e5 with e5
    rw [← e5, ← e] at hb5
    exact Nat.lt_irrefl _ hb5
  obtain ⟨pp, hpp⟩ : ∃ p, p = w2.heap.size := ⟨_, rfl⟩
  rw [← hpp] at HP hap hkp hrp hpw HD1
  rw [← hpp]
  clear hW3 hpp hss hcap hc0 hs0 hab CC HBC hkl hrl HS1w hc1 hs1 hab1 HW
  replace HK := HK.dr; replace HR := HR.dr; replace HP := HP.dr; replace HB := HB.dr; replace HS0 := HS0.dr; replace HS1 := HS1.dr
  refine wp_region_held_drew (S := fun w' => w'.cell? ⟨w.heap.size, 0, none⟩ = some (.slice A n c) ∧ w'.cell? ⟨w.heap.size, 1, none⟩ = some (.slice B m d) ∧ w'.cell? ad = some (.slice D0 a.length c0)) (by kernel_rfl) ?_ (fun hHeld => ?_)
  · exact ⟨HK.c0, HK.c1, hcell⟩
  have hadl : ad.block < W3.drew.heap.size := hadw
  replace hcell : W3.drew.cell? ad = some (.slice D0 a.length c0) := hcell
  replace hcell1 : W3.drew.cell? ⟨ad.block, ad.off + 1, none⟩ = some (.slice D1 d'.length c1) := hcell1
  have hp_f0 := HP.f0
  generalize W3.drew = Wd at *
  have hpl := HP.lt
  have hrl2 := HR.lt
  have hwb := HB.size
  obtain ⟨bs, hbs⟩ : ∃ b, b = Wd.heap.size := ⟨_, rfl⟩
  rw [← hbs] at hpl hrl2 hwb
  have HBS := khide hbs
  clear hbs
  (refine wpAnyH_take (i := 0) (v := ?_) rfl (by decide +kernel) (by decide +kernel) (by decide +kernel) (fun _ _ _ h => h) (Or.inl ⟨by rfl, ?_⟩) (by assumption) ?_; rotate_left; (focus ((intro w hSw; (try dsimp only at hSw); go_simp); (try (with_reducible rfl)); done)); (try simp only [List.getElem_toArray, List.getElem_cons_zero, List.getElem_cons_succ, Act.put, List.setIfInBounds_toArray, List.set_cons_zero, List.set_cons_succ]))
  (refine wpAnyH_take (i := 1) (v := ?_) rfl (by decide +kernel) (by decide +kernel) (by decide +kernel) (fun _ _ _ h => h) (Or.inl ⟨by rfl, ?_⟩) (by assumption) ?_; rotate_left; (focus ((intro w hSw; (try dsimp only at hSw); go_simp); (try (with_reducible rfl)); done)); (try simp only [List.getElem_toArray, List.getElem_cons_zero, List.getElem_cons_succ, Act.put, List.setIfInBounds_toArray, List.set_cons_zero, List.set_cons_succ]))
  (refine wpAnyH_take (i := 2) (v := ?_) rfl (by decide +kernel) (by decide +kernel) (by decide +kernel) (fun _ _ _ h => h) (Or.inl ⟨by rfl, ?_⟩) (by assumption) ?_; rotate_left; (focus ((intro w hSw; (try dsimp only at hSw); go_simp); (try (with_reducible rfl)); done)); (try simp only [List.getElem_toArray, List.getElem_cons_zero, List.getElem_cons_succ, Act.put, List.setIfInBounds_toArray, List.set_cons_zero, List.set_cons_succ]))
  (refine wpAnyH_take (i := 3) (v := ?_) rfl (by decide +kernel) (by decide +kernel) (by decide +kernel) (fun _ _ _ h => h) (Or.inl ⟨by rfl, ?_⟩) (by assumption) ?_; rotate_left; (focus ((intro w hSw; (try dsimp only at hSw); go_simp); (try (with_reducible rfl)); done)); (try simp only [List.getElem_toArray, List.getElem_cons_zero, List.getElem_cons_succ, Act.put, List.setIfInBounds_toArray, List.set_cons_zero, List.set_cons_succ]))
  (refine wpAnyH_ready (rs := [4]) (by decide +kernel) (by simp) ?_; refine AllReadyH.cons rfl (fun K hK => ?_) AllReadyH.nil; go_simp; (go_at_call 69; (with_reducible refine (CA1.out _ _ _ _ HB HS0 rfl hcp).mono ?_); rintro e w4 ⟨A1, m1, k1, rfl, hb⟩; replace HK := HK.up hb.hid; replace HR := HR.up hb.hid; replace HP := HP.up hb.hid; replace HB := HB.up hb.hid; replace HS1 := HS1.up hb.hid; replace hcell : w4.cell? ad = some (.slice D0 a.length c0) := (hb.cell hadl).trans hcell; replace hcell1 : w4.cell? ⟨ad.block, ad.off + 1, none⟩ = some (.slice D1 d'.length c1) := (hb.cell (p := ⟨ad.block, ad.off + 1, none⟩) hadl).trans hcell1; have KS : Hid (∀ v : Value, (w4.setCell ⟨pp, 0, none⟩ v).cell? ⟨w.heap.size, 0, none⟩ = some (.slice A n c) ∧ (w4.setCell ⟨pp, 0, none⟩ v).cell? ⟨w.heap.size, 1, none⟩ = some (.slice B m d) ∧ (w4.setCell ⟨pp, 0, none⟩ v).cell? ad = some (.slice D0 a.length c0)) := fun v => ⟨(World.cell?_setCell_far _ _ _ _ hkp).trans HK.c0, (World.cell?_setCell_far _ _ _ _ hkp).trans HK.c1, (World.cell?_setCell_far _ _ _ _ hap).trans hcell⟩; clear hp_f0; have hp_f0 := HP.f0; have hp_0 := HP.c0); (try (go_wp2_with fail)); refine hK.out _ _ ?_ (fun hHeld => ?_); (focus ((try dsimp only); (first | (with_reducible exact ⟨HK.c0, HK.c1, hcell⟩) | exact KS.out _))); clear hK K; (try simp only [List.getElem_toArray, List.getElem_cons_zero, List.getElem_cons_succ, Act.put, List.setIfInBounds_toArray, List.set_cons_zero, List.set_cons_succ]))
  (refine wpAnyH_take (i := 5) (v := ?_) rfl (by decide +kernel) (by decide +kernel) (by decide +kernel) (fun _ _ _ h => h) (Or.inl ⟨by rfl, ?_⟩) (by assumption) ?_; rotate_left; (focus ((intro w hSw; (try dsimp only at hSw); go_simp); (try (with_reducible rfl)); done)); (try simp only [List.getElem_toArray, List.getElem_cons_zero, List.getElem_cons_succ, Act.put, List.setIfInBounds_toArray, List.set_cons_zero, List.set_cons_succ]))
  (refine wpAnyH_take (i := 6) (v := ?_) rfl (by decide +kernel) (by decide +kernel) (by decide +kernel) (fun _ _ _ h => h) (Or.inl ⟨by rfl, ?_⟩) (by assumption) ?_; rotate_left; (focus ((intro w hSw; (try dsimp only at hSw); go_simp); (try (with_reducible rfl)); done)); (try simp only [List.getElem_toArray, List.getElem_cons_zero, List.getElem_cons_succ, Act.put, List.setIfInBounds_toArray, List.set_cons_zero, List.set_cons_succ]))
  (refine wpAnyH_take (i := 7) (v := ?_) rfl (by decide +kernel) (by decide +kernel) (by decide +kernel) (fun _ _ _ h => h) (Or.inl ⟨by rfl, ?_⟩) (by assumption) ?_; rotate_left; (focus ((intro w hSw; (try dsimp only at hSw); go_simp); (try (with_reducible rfl)); done)); (try simp only [List.getElem_toArray, List.getElem_cons_zero, List.getElem_cons_succ, Act.put, List.setIfInBounds_toArray, List.set_cons_zero, List.set_cons_succ]))
  (refine wpAnyH_take (i := 8) (v := ?_) rfl (by decide +kernel) (by decide +kernel) (by decide +kernel) (fun _ _ _ h => h) (Or.inl ⟨by rfl, ?_⟩) (by assumption) ?_; rotate_left; (focus ((intro w hSw; (try dsimp only at hSw); go_simp); (try (with_reducible rfl)); done)); (try simp only [List.getElem_toArray, List.getElem_cons_zero, List.getElem_cons_succ, Act.put, List.setIfInBounds_toArray, List.set_cons_zero, List.set_cons_succ]))
  (refine wpAnyH_ready (rs := [9]) (by decide +kernel) (by simp) ?_; refine AllReadyH.cons rfl (fun K hK => ?_) AllReadyH.nil; go_simp; refine hK.out _ _ ?_ (fun hHeld => ?_); (focus ((try dsimp only); (first | (with_reducible exact ⟨HK.c0, HK.c1, hcell⟩) | exact KS.out _))); clear hK K; (try simp only [List.getElem_toArray, List.getElem_cons_zero, List.getElem_cons_succ, Act.put, List.setIfInBounds_toArray, List.set_cons_zero, List.set_cons_succ]))
  (refine wpAnyH_take (i := 10) (v := ?_) rfl (by decide +kernel) (by decide +kernel) (by decide +kernel) (fun _ _ _ h => h) (Or.inl ⟨by rfl, ?_⟩) (by assumption) ?_; rotate_left; (focus ((intro w hSw; (try dsimp only at hSw); go_simp); (try (with_reducible rfl)); done)); (try simp only [List.getElem_toArray, List.getElem_cons_zero, List.getElem_cons_succ, Act.put, List.setIfInBounds_toArray, List.set_cons_zero, List.set_cons_succ]))
  refine wpAnyH_done (by decide +kernel) ?_ _
  go_upto_region 9 with fail
  refine kwp_named ?_
  intro W5 hW5
  have HOLD := HP.c0
  replace HP : At W5 pp [.slice A1 m1 k1, .slice none 0 0, .string ⟨#[49]⟩] := by rw [hW5]; exact HP.put (i := 0) (by simp) _
  replace HR : At W5 (w.heap.size + 1) [.slice none 0 0, .slice none 0 0, .string ⟨#[]⟩] := by rw [hW5]; exact HR.far hrp _
  replace HK : At W5 w.heap.size [.slice A n c, .slice B m d] := by rw [hW5]; exact HK.far hkp _
  replace HB : Bel w W5 := by rw [hW5]; exact Below.setCell HB hpw _
  replace hcell1 : W5.cell? ⟨ad.block, ad.off + 1, none⟩ = some (.slice D1 d'.length c1) := by rw [hW5]; exact (World.cell?_setCell_far _ _ (⟨ad.block, ad.off + 1, none⟩ : Addr) _ hap).trans hcell1
  replace HS1 : Ss W5 D1 d' := by rw [hW5]; exact ss_put HS1 HOLD _
  clear hW5 HOLD hp_f0 hp_0 KS hcell hadl hb HS0
  obtain ⟨x, dl, rfl⟩ : ∃ x dl, d' = x :: dl := by
    cases d' with
    | nil => exact absurd rfl hne
    | cons x dl => exact ⟨x, dl, rfl⟩
  obtain ⟨adx, rfl, hxb, hxc⟩ := HS1.out (by simp)
  have hx0 : W5.cell? adx = some (.string x) := by have h9 := hxc 0 x rfl; rwa [addr_zero] at h9
  have hpx : pp ≠ adx.block := HD1.out adx rfl (by simp)
  obtain ⟨bn, hbn⟩ : ∃ b, numW x.data.toList = b := ⟨_, rfl⟩
  have CN : Hid (∀ W : World, Calls Tryz.prog 70 #[.string x] W fun e w' => e = .returned (.bool bn) ∧ W = w') := fun W => hbn ▸ rnumber_any (hau x (by simp)) W
  have HBN := khide hbn
  have HZ : Hid ((x :: dl).length = dl.length + 1) := rfl
  obtain ⟨z, hz⟩ : ∃ z, (x :: dl).length = z := ⟨_, rfl⟩
  have z0 : 0 < z := by rw [← hz]; simp
  have z1 : (0 : Int) < (z : Int) := by omega
  have z2 : 1 ≤ z := z0
  have z5 : (1 : Int) ≤ (z : Int) := by omega
  have z3 : decide ((0 : Int) < (z : Int)) = true := decide_eq_true z1
  have z4 : ((z : Int) == 0) = false := by rw [beq_eq_false_iff_ne]; omega
  rw [hz] at hcell1 hcp1 HZ
  have HZZ := khide hz
  clear hbn hxc hz hau HD1 hne
  obtain ⟨y, hy⟩ : ∃ y, (x.toList != [49]) = y := ⟨_, rfl⟩
  obtain ⟨kb, hkb⟩ : ∃ k, (bn && y) = k := ⟨_, rfl⟩
  have HE : Hid (headD (x :: dl) = if kb = true then (x, dl) else (oneB, x :: dl)) := hkb ▸ headD_kb HBN.out hy
  clear HBN
  go_upto_region 10 with fail
  go_cut [61] from 47 to 61 (fun v w' => v = .bool kb ∧ w' = W5)
  case first =>
    have HSy : (x.toList == [49]) = !y := by rw [← hy, bne, Bool.not_not]
    cases bn <;> cases y
    all_goals (
      simp only [Bool.not_true, Bool.not_false] at HSy
      go_wp2_with (first | (go_at_call 70; (with_reducible refine (CN.out _).mono ?_); rintro e w6 ⟨rfl, rfl⟩) | fail)
      go_meet
      case rel => rw [← hkb]; exact ⟨by first | rfl | simp, rfl⟩)
  case rest =>
  obtain ⟨rfl, rfl⟩ := hcut
  clear hkb CN hy
  go_upto_if 61 with fail
  go_cut [9] from 62 to 71 (fun dv w' => ∃ D2 j2 g2, dv = .slice D2 j2 g2 ∧ j2 = (headD (x :: dl)).2.length ∧ j2 ≤ g2 ∧ Ss w' D2 (headD (x :: dl)).2 ∧ At w' pp [.slice A1 m1 k1, .slice none 0 0, .string (headD (x :: dl)).1] ∧ At w' w.heap.size [.slice A n c, .slice B m d] ∧ At w' (w.heap.size + 1) [.slice none 0 0, .slice none 0 0, .string ⟨#[]⟩] ∧ Bel w w')
  case first =>
    cases kb with
    | false =>
      have E9 : Hid (headD (x :: dl) = (oneB, x :: dl)) := HE.out.trans (if_neg (by simp))
      clear HE
      go_wp2_with fail
      go_meet
      case rel => rw [E9.out]; exact ⟨some adx, z, c1, rfl, HZZ.out.symm, hcp1, HS1, HP, HK, HR, HB⟩
    | true =>
      have E9 : Hid (headD (x :: dl) = (x, dl)) := HE.out.trans (if_pos rfl)
      clear HE
      go_upto_region 11 with fail
      replace HP := HP.dr; replace HB := HB.dr; replace HS1 := HS1.dr; replace HK := HK.dr; replace HR := HR.dr
      have KX : Hid (∀ v : Value, (wc.drew.setCell ⟨pp, 2, none⟩ v).cell? adx = some (.string x)) := fun v => (World.cell?_setCell_far _ _ _ _ hpx).trans hx0
      have hp_f2 := HP.f2; have hp_2 := HP.c2; have hp_l := HP.lt
      obtain ⟨D9, hD9⟩ : ∃ D9, (if c1 = 1 then some adx else some (⟨adx.block, adx.off + 1, none⟩ : Addr)) = D9 := ⟨_, rfl⟩
      refine wp_region_held_drew (S := fun w' => w'.cell? adx = some (.string x)) (by kernel_rfl) ?_ (fun hHeld => ?_)
      · exact hx0
      (refine wpAnyH_take (i := 0) (v := ?_) rfl (by decide +kernel) (by decide +kernel) (by decide +kernel) (fun _ _ _ h => h) (Or.inl ⟨by rfl, ?_⟩) (by assumption) ?_; rotate_left; (focus ((intro w hSw; (try dsimp only at hSw); go_simp); (try (with_reducible rfl)); done)); (try simp only [List.getElem_toArray, List.getElem_cons_zero, List.getElem_cons_succ, Act.put, List.setIfInBounds_toArray, List.set_cons_zero, List.set_cons_succ]))
      (refine wpAnyH_take (i := 1) (v := ?_) rfl (by decide +kernel) (by decide +kernel) (by decide +kernel) (fun _ _ _ h => h) (Or.inl ⟨by rfl, ?_⟩) (by assumption) ?_; rotate_left; (focus ((intro w hSw; (try dsimp only at hSw); go_simp); (try (with_reducible rfl)); done)); (try simp only [List.getElem_toArray, List.getElem_cons_zero, List.getElem_cons_succ, Act.put, List.setIfInBounds_toArray, List.set_cons_zero, List.set_cons_succ]))
      (refine wpAnyH_take (i := 2) (v := ?_) rfl (by decide +kernel) (by decide +kernel) (by decide +kernel) (fun _ _ _ h => h) (Or.inl ⟨by rfl, ?_⟩) (by assumption) ?_; rotate_left; (focus ((intro w hSw; (try dsimp only at hSw); go_simp); (try (with_reducible rfl)); done)); (try simp only [List.getElem_toArray, List.getElem_cons_zero, List.getElem_cons_succ, Act.put, List.setIfInBounds_toArray, List.set_cons_zero, List.set_cons_succ]))
      (refine wpAnyH_take (i := 3) (v := ?_) rfl (by decide +kernel) (by decide +kernel) (by decide +kernel) (fun _ _ _ h => h) (Or.inl ⟨by rfl, ?_⟩) (by assumption) ?_; rotate_left; (focus ((intro w hSw; (try dsimp only at hSw); go_simp); (try (with_reducible rfl)); done)); (try simp only [List.getElem_toArray, List.getElem_cons_zero, List.getElem_cons_succ, Act.put, List.setIfInBounds_toArray, List.set_cons_zero, List.set_cons_succ]))
      (refine wpAnyH_take (i := 4) (v := ?_) rfl (by decide +kernel) (by decide +kernel) (by decide +kernel) (fun _ _ _ h => h) (Or.inl ⟨by rfl, ?_⟩) (by assumption) ?_; rotate_left; (focus ((intro w hSw; (try dsimp only at hSw); go_simp); (try (with_reducible rfl)); done)); (try simp only [List.getElem_toArray, List.getElem_cons_zero, List.getElem_cons_succ, Act.put, List.setIfInBounds_toArray, List.set_cons_zero, List.set_cons_succ]))
      (refine wpAnyH_take (i := 5) (v := ?_) rfl (by decide +kernel) (by decide +kernel) (by decide +kernel) (fun _ _ _ h => h) (Or.inl ⟨by rfl, ?_⟩) (by assumption) ?_; rotate_left; (focus ((intro w hSw; (try dsimp only at hSw); go_simp); (try (with_reducible rfl)); done)); (try simp only [List.getElem_toArray, List.getElem_cons_zero, List.getElem_cons_succ, Act.put, List.setIfInBounds_toArray, List.set_cons_zero, List.set_cons_succ]))
      (refine wpAnyH_ready (rs := [6]) (by decide +kernel) (by simp) ?_; refine AllReadyH.cons rfl (fun K hK => ?_) AllReadyH.nil; go_simp; refine hK.out _ _ ?_ (fun hHeld => ?_); (focus ((try dsimp only); (first | exact hx0 | exact KX.out _))); clear hK K; (try simp only [List.getElem_toArray, List.getElem_cons_zero, List.getElem_cons_succ, Act.put, List.setIfInBounds_toArray, List.set_cons_zero, List.set_cons_succ]))
      (refine wpAnyH_take (i := 7) (v := ?_) rfl (by decide +kernel) (by decide +kernel) (by decide +kernel) (fun _ _ _ h => h) (Or.inl ⟨by rfl, ?_⟩) (by assumption) ?_; rotate_left; (focus ((intro w hSw; (try dsimp only at hSw); go_simp); (try (with_reducible rfl)); done)); (try simp only [List.getElem_toArray, List.getElem_cons_zero, List.getElem_cons_succ, Act.put, List.setIfInBounds_toArray, List.set_cons_zero, List.set_cons_succ]))
      refine wpAnyH_done (by decide +kernel) ?_ _
      go_wp2_with fail
      go_meet
      case rel =>
        rw [E9.out]
        refine ⟨D9, z - 1, c1 - 1, rfl, ?_, ?_, ?_, HP.put (i := 2) (by simp) _, HK.far hkp _, HR.far hrp _, Below.setCell HB hpw _⟩
        · show z - 1 = dl.length; have h9 := HZ.out; omega
        · omega
        · have h9 := HS1.sub (t := 1) (g := c1) (by rw [HZZ.out]; exact hcp1)
          have h8 : Ss wc.drew (if c1 = 1 then some adx else some ⟨adx.block, adx.off + 1, none⟩) dl := by rw [add_one']; exact h9
          have h7 := ss_put2 h8 HP.c2 (fun ad0 e0 => by
            by_cases h1 : c1 = 1
            · rw [if_pos h1] at e0; injection e0 with e0; rw [← e0]; exact hpx
            · rw [if_neg h1] at e0; injection e0 with e0; rw [← e0]; exact hpx) (.string x)
          rw [hD9] at h7
          exact h7
  case rest =>
    obtain ⟨D2, j2, g2, rfl, hj2, hjg2, HS2, HP, HK, HR, HB⟩ := hcut
    replace hj2 := khide hj2
    replace hjg2 := khide hjg2
    obtain ⟨tt, htt⟩ : ∃ t, (headD (x :: dl)).1 = t := ⟨_, rfl⟩
    rw [htt] at HP
    have HTT := khide htt
    clear htt HS1 hx0 hpx hcell1 hap
    have hk_0 := HK.c0; have hk_1 := HK.c1; have hk_l := HK.lt; have hp_f1 := HP.f1; have hp_1 := HP.c1; have hp_l := HP.lt
    obtain ⟨b2, hb2⟩ : ∃ b, b = wc.heap.size := ⟨_, rfl⟩
    have hpb : pp < b2 := by rw [hb2]; exact HP.lt
    have hrb : w.heap.size + 1 < b2 := by rw [hb2]; exact HR.lt
    have hwb2 : w.heap.size ≤ b2 := by rw [hb2]; exact HB.size
    have HB2 := khide hb2
    clear hb2
    go_upto_region 16 with (first | (go_at_call 69; (with_reducible refine (CA2.out _ _ _ _ HB HS2 hj2.out hjg2.out).mono ?_); rintro e w7 ⟨A2, m2, k2, rfl, hb⟩; clear hk_0 hk_1 hk_l hp_f1 hp_1 hp_l; replace HK := HK.up hb.hid; replace HP := HP.up hb.hid; replace HR := HR.up hb.hid; replace HB := HB.up hb.hid; have hk_0 := HK.c0; have hk_1 := HK.c1; have hk_l := HK.lt; have hp_f1 := HP.f1; have hp_1 := HP.c1; have hp_l := HP.lt) | fail)
    refine kwp_named ?_
    intro W8 hW8
    replace HP : At W8 pp [.slice A1 m1 k1, .slice A2 m2 k2, .string tt] := by rw [hW8]; exact HP.put (i := 1) (by simp) _
    replace HR : At W8 (w.heap.size + 1) [.slice none 0 0, .slice none 0 0, .string ⟨#[]⟩] := by rw [hW8]; exact HR.far hrp _
    replace HB : Bel w W8 := by rw [hW8]; exact Below.setCell HB hpw _
    clear hW8 hk_0 hk_1 hk_l hp_f1 hp_1 hp_l hb HK HS2
    replace HR := HR.dr; replace HP := HP.dr; replace HB := HB.dr
    refine wp_region_held_drew (S := fun w' => w'.cell? ⟨pp, 0, none⟩ = some (.slice A1 m1 k1) ∧ w'.cell? ⟨pp, 1, none⟩ = some (.slice A2 m2 k2) ∧ w'.cell? ⟨pp, 2, none⟩ = some (.string tt)) (by kernel_rfl) ?_ (fun hHeld => ?_)
    · exact ⟨HP.c0, HP.c1, HP.c2⟩
    have hr_f0 := HR.f0; have hr_f1 := HR.f1; have hr_f2 := HR.f2; have hr_0 := HR.c0; have hr_1 := HR.c1; have hr_2 := HR.c2; have hr_l := HR.lt
    have hrq : w.heap.size + 1 ≠ pp := fun e => hrp e.symm
    generalize W8.drew = Wd at *
    have KS : Hid (∀ x y z : Value, (((Wd.setCell ⟨w.heap.size + 1, 0, none⟩ x).setCell ⟨w.heap.size + 1, 1, none⟩ y).setCell ⟨w.heap.size + 1, 2, none⟩ z).cell? ⟨pp, 0, none⟩ = some (.slice A1 m1 k1) ∧ (((Wd.setCell ⟨w.heap.size + 1, 0, none⟩ x).setCell ⟨w.heap.size + 1, 1, none⟩ y).setCell ⟨w.heap.size + 1, 2, none⟩ z).cell? ⟨pp, 1, none⟩ = some (.slice A2 m2 k2) ∧ (((Wd.setCell ⟨w.heap.size + 1, 0, none⟩ x).setCell ⟨w.heap.size + 1, 1, none⟩ y).setCell ⟨w.heap.size + 1, 2, none⟩ z).cell? ⟨pp, 2, none⟩ = some (.string tt)) := fun x y z => by
      have h5 := ((HP.far hrq (i := 0) x).far hrq (i := 1) y).far hrq (i := 2) z
      exact ⟨h5.c0, h5.c1, h5.c2⟩
    (refine wpAnyH_take (i := 0) (v := ?_) rfl (by decide +kernel) (by decide +kernel) (by decide +kernel) (fun _ _ _ h => h) (Or.inl ⟨by rfl, ?_⟩) (by assumption) ?_; rotate_left; (focus ((intro w hSw; (try dsimp only at hSw); go_simp); (try (with_reducible rfl)); done)); (try simp only [List.getElem_toArray, List.getElem_cons_zero, List.getElem_cons_succ, Act.put, List.setIfInBounds_toArray, List.set_cons_zero, List.set_cons_succ]))
    (refine wpAnyH_take (i := 1) (v := ?_) rfl (by decide +kernel) (by decide +kernel) (by decide +kernel) (fun _ _ _ h => h) (Or.inl ⟨by rfl, ?_⟩) (by assumption) ?_; rotate_left; (focus ((intro w hSw; (try dsimp only at hSw); go_simp); (try (with_reducible rfl)); done)); (try simp only [List.getElem_toArray, List.getElem_cons_zero, List.getElem_cons_succ, Act.put, List.setIfInBounds_toArray, List.set_cons_zero, List.set_cons_succ]))
    (refine wpAnyH_take (i := 2) (v := ?_) rfl (by decide +kernel) (by decide +kernel) (by decide +kernel) (fun _ _ _ h => h) (Or.inl ⟨by rfl, ?_⟩) (by assumption) ?_; rotate_left; (focus ((intro w hSw; (try dsimp only at hSw); go_simp); (try (with_reducible rfl)); done)); (try simp only [List.getElem_toArray, List.getElem_cons_zero, List.getElem_cons_succ, Act.put, List.setIfInBounds_toArray, List.set_cons_zero, List.set_cons_succ]))
    (refine wpAnyH_take (i := 3) (v := ?_) rfl (by decide +kernel) (by decide +kernel) (by decide +kernel) (fun _ _ _ h => h) (Or.inl ⟨by rfl, ?_⟩) (by assumption) ?_; rotate_left; (focus ((intro w hSw; (try dsimp only at hSw); go_simp); (try (with_reducible rfl)); done)); (try simp only [List.getElem_toArray, List.getElem_cons_zero, List.getElem_cons_succ, Act.put, List.setIfInBounds_toArray, List.set_cons_zero, List.set_cons_succ]))
    (refine wpAnyH_take (i := 4) (v := ?_) rfl (by decide +kernel) (by decide +kernel) (by decide +kernel) (fun _ _ _ h => h) (Or.inl ⟨by rfl, ?_⟩) (by assumption) ?_; rotate_left; (focus ((intro w hSw; (try dsimp only at hSw); go_simp); (try (with_reducible rfl)); done)); (try simp only [List.getElem_toArray, List.getElem_cons_zero, List.getElem_cons_succ, Act.put, List.setIfInBounds_toArray, List.set_cons_zero, List.set_cons_succ]))
    (refine wpAnyH_take (i := 5) (v := ?_) rfl (by decide +kernel) (by decide +kernel) (by decide +kernel) (fun _ _ _ h => h) (Or.inl ⟨by rfl, ?_⟩) (by assumption) ?_; rotate_left; (focus ((intro w hSw; (try dsimp only at hSw); go_simp); (try (with_reducible rfl)); done)); (try simp only [List.getElem_toArray, List.getElem_cons_zero, List.getElem_cons_succ, Act.put, List.setIfInBounds_toArray, List.set_cons_zero, List.set_cons_succ]))
    (refine wpAnyH_take (i := 6) (v := undef) rfl (by decide +kernel) (by decide +kernel) (by decide +kernel) (fun _ _ _ h => h) (Or.inr ⟨by rfl, rfl⟩) (by assumption) ?_; (try simp only [List.getElem_toArray, List.getElem_cons_zero, List.getElem_cons_succ, Act.put, List.setIfInBounds_toArray, List.set_cons_zero, List.set_cons_succ]))
    (refine wpAnyH_take (i := 7) (v := undef) rfl (by decide +kernel) (by decide +kernel) (by decide +kernel) (fun _ _ _ h => h) (Or.inr ⟨by rfl, rfl⟩) (by assumption) ?_; (try simp only [List.getElem_toArray, List.getElem_cons_zero, List.getElem_cons_succ, Act.put, List.setIfInBounds_toArray, List.set_cons_zero, List.set_cons_succ]))
    (refine wpAnyH_take (i := 8) (v := undef) rfl (by decide +kernel) (by decide +kernel) (by decide +kernel) (fun _ _ _ h => h) (Or.inr ⟨by rfl, rfl⟩) (by assumption) ?_; (try simp only [List.getElem_toArray, List.getElem_cons_zero, List.getElem_cons_succ, Act.put, List.setIfInBounds_toArray, List.set_cons_zero, List.set_cons_succ]))
    (refine wpAnyH_take (i := 9) (v := undef) rfl (by decide +kernel) (by decide +kernel) (by decide +kernel) (fun _ _ _ h => h) (Or.inr ⟨by rfl, rfl⟩) (by assumption) ?_; (try simp only [List.getElem_toArray, List.getElem_cons_zero, List.getElem_cons_succ, Act.put, List.setIfInBounds_toArray, List.set_cons_zero, List.set_cons_succ]))
    (refine wpAnyH_take (i := 10) (v := undef) rfl (by decide +kernel) (by decide +kernel) (by decide +kernel) (fun _ _ _ h => h) (Or.inr ⟨by rfl, rfl⟩) (by assumption) ?_; (try simp only [List.getElem_toArray, List.getElem_cons_zero, List.getElem_cons_succ, Act.put, List.setIfInBounds_toArray, List.set_cons_zero, List.set_cons_succ]))
    (refine wpAnyH_take (i := 11) (v := undef) rfl (by decide +kernel) (by decide +kernel) (by decide +kernel) (fun _ _ _ h => h) (Or.inr ⟨by rfl, rfl⟩) (by assumption) ?_; (try simp only [List.getElem_toArray, List.getElem_cons_zero, List.getElem_cons_succ, Act.put, List.setIfInBounds_toArray, List.set_cons_zero, List.set_cons_succ]))
    (refine wpAnyH_take (i := 12) (v := undef) rfl (by decide +kernel) (by decide +kernel) (by decide +kernel) (fun _ _ _ h => h) (Or.inr ⟨by rfl, rfl⟩) (by assumption) ?_; (try simp only [List.getElem_toArray, List.getElem_cons_zero, List.getElem_cons_succ, Act.put, List.setIfInBounds_toArray, List.set_cons_zero, List.set_cons_succ]))
    (refine wpAnyH_take (i := 13) (v := undef) rfl (by decide +kernel) (by decide +kernel) (by decide +kernel) (fun _ _ _ h => h) (Or.inr ⟨by rfl, rfl⟩) (by assumption) ?_; (try simp only [List.getElem_toArray, List.getElem_cons_zero, List.getElem_cons_succ, Act.put, List.setIfInBounds_toArray, List.set_cons_zero, List.set_cons_succ]))
    (refine wpAnyH_take (i := 14) (v := ?_) rfl (by decide +kernel) (by decide +kernel) (by decide +kernel) (fun _ _ _ h => h) (Or.inl ⟨by rfl, ?_⟩) (by assumption) ?_; rotate_left; (focus ((intro w hSw; (try dsimp only at hSw); go_simp); (try (with_reducible rfl)); done)); (try simp only [List.getElem_toArray, List.getElem_cons_zero, List.getElem_cons_succ, Act.put, List.setIfInBounds_toArray, List.set_cons_zero, List.set_cons_succ]))
    (refine wpAnyH_ready (rs := [15]) (by decide +kernel) (by simp) ?_; refine AllReadyH.cons rfl (fun K hK => ?_) AllReadyH.nil; go_simp; refine hK.out _ _ ?_ (fun hHeld => ?_); (focus ((try dsimp only); (first | (with_reducible exact ⟨HP.c0, HP.c1, HP.c2⟩) | exact KS.out _ _ _))); clear hK K; (try simp only [List.getElem_toArray, List.getElem_cons_zero, List.getElem_cons_succ, Act.put, List.setIfInBounds_toArray, List.set_cons_zero, List.set_cons_succ]))
    (refine wpAnyH_take (i := 16) (v := ?_) rfl (by decide +kernel) (by decide +kernel) (by decide +kernel) (fun _ _ _ h => h) (Or.inl ⟨by rfl, ?_⟩) (by assumption) ?_; rotate_left; (focus ((intro w hSw; (try dsimp only at hSw); go_simp); (try (with_reducible rfl)); done)); (try simp only [List.getElem_toArray, List.getElem_cons_zero, List.getElem_cons_succ, Act.put, List.setIfInBounds_toArray, List.set_cons_zero, List.set_cons_succ]))
    refine wpAnyH_done (by decide +kernel) ?_ _
    go_wp2_with fail
    have hs : w.heap.size ≤ w.heap.size + 1 := Nat.le_succ _
    refine bodyPost_ret (v := .tuple #[.agg #[.slice A1 m1 k1, .slice A2 m2 k2, .string tt], .bool false]) (by simp [results, Tryz.results43, go_sem, hr_0, hr_1, hr_2, hr_l]) rfl ⟨_, _, _, _, _, _, _, rfl, kbelow3 HB hs _ _ _⟩
set_option maxHeartbeats 8000000 in
theorem part_two_long {r s : List AL} (hne : d' ≠ []) (hr1 : r.length ≤ 1000000) (hs1 : s.length ≤ 1000000) (hr : 8 < r.length + s.length) (h2 : Ss w D l) (hj : j = l.length) (hjl : j ≤ 1000000) (hc : cutBy perB l = [a, d']) (hau : ∀ x ∈ d', x.size ≤ 1000000) (CA1 : Hid (RAtoms w A B n c m d a (fun W => AtomsR W (some r)))) (CA2 : Hid (RAtoms w A B n c m d (headD d').2 (fun W => AtomsR W (some s)))) :
    Calls Tryz.prog 43 #[.agg #[.slice A n c, .slice B m d], .slice D j g] w (PartR w (none)) := by
  obtain ⟨W1, hW1⟩ : ∃ X, X = (w.alloc (.cells #[.slice A n c, .slice B m d] 48)).alloc (.cells #[.slice none 0 0, .slice none 0 0, .string ⟨#[]⟩] 86) := ⟨_, rfl⟩
  have HK : At W1 w.heap.size [.slice A n c, .slice B m d] := by rw [hW1]; exact (at_new0 _ _ _).al _
  have HR : At W1 (w.heap.size + 1) [.slice none 0 0, .slice none 0 0, .string ⟨#[]⟩] := by rw [hW1]; exact at_new1 _ _ _ _
  have HB : Bel w W1 := by rw [hW1]; exact ((Bel.refl w).al _).al _
  have HB0 : Hid (Below w.heap.size w W1) := HB
  have CC : Hid (Calls Tryz.prog 42 #[.slice D j g, .string ⟨#[112, 101, 114]⟩] W1 (ListsC W1 [a, d'])) := hc ▸ rcut_any (t := perB) (h2.up HB0) hj hjl
  have e3 : decide ((r.length : Int) + (s.length : Int) ≤ 8) = false := decide_eq_false (by omega)
  have e4 : decide (r.length + s.length ≤ 8) = false := decide_eq_false (by omega)
  have e5 : IntKind.i64.wrap ((r.length : Int) + (s.length : Int)) = (r.length : Int) + (s.length : Int) := by rw [IntKind.wrap_i64]; omega
  clear hr hr1 hs1
  have HW := khide hW1
  clear hW1 h2 hj hjl hc HB0
  go_enter Tryz.func43, Tryz.ntmps43
  go_upto_region 1 with fail
  rw [← HW.out]
  go_upto_region 6 with (first | (go_at_call 42; (with_reducible refine (CC.out).mono ?_); rintro e w2 ⟨ad, cc, rfl, hss, hcap, hb2⟩; replace HK := HK.up hb2; replace HR := HR.up hb2; replace HB := HB.up hb2) | fail)
  obtain ⟨ad', D0, c0, e0, hab, hc0, hs0, -⟩ := hss.out.at_ (k := 0) (by simp)
  injection e0 with e0
  subst e0
  have hcp : a.length ≤ c0 := hcap 0 _ _ _ (by simp) hc0
  rw [addr_zero] at hc0
  replace hc0 : w2.cell? ad = some (.slice D0 a.length c0) := hc0
  have HS0 : Ss w2 D0 a := hs0
  obtain ⟨ad2, D1, c1, e1, hab1, hc1, hs1, -⟩ := hss.out.at_ (k := 1) (by simp)
  injection e1 with e1
  subst e1
  have hcp1 : d'.length ≤ c1 := hcap 1 _ _ _ (by simp) hc1
  rw [← add_one'] at hc1
  replace hc1 : w2.cell? ⟨ad.block, ad.off + 1, none⟩ = some (.slice D1 d'.length c1) := hc1
  have HS1 : Ss w2 D1 d' := hs1
  have hkl := HK.lt
  have hrl := HR.lt
  refine kwp_named ?_
  intro W3 hW3
  have HP : At W3 w2.heap.size [.slice none 0 0, .slice none 0 0, .string ⟨#[49]⟩] := by rw [hW3]; exact at_new0 _ _ _
  have HBC : Hid (Bel w2 W3) := by rw [hW3]; exact (Bel.refl w2).al _
  have hcell : W3.cell? ad = some (.slice D0 a.length c0) := (HBC.out.cell hab).trans hc0
  have hcell1 : W3.cell? ⟨ad.block, ad.off + 1, none⟩ = some (.slice D1 d'.length c1) := (HBC.out.cell (p := ⟨ad.block, ad.off + 1, none⟩) hab).trans hc1
  replace HS0 : Ss W3 D0 a := HS0.up HBC.out
  have HS1w : Hid (Ss w2 D1 d') := HS1
  replace HS1 : Ss W3 D1 d' := HS1.up HBC.out
  replace HB : Bel w W3 := HB.up HBC.out
  replace HK := HK.up HBC.out
  replace HR := HR.up HBC.out
  have hadw : ad.block < W3.heap.size := Nat.lt_of_lt_of_le hab HBC.out.size
  have hpw : w.heap.size ≤ w2.heap.size := Nat.le_of_lt hkl
  have hkp : w2.heap.size ≠ w.heap.size := Nat.ne_of_gt hkl
  have hrp : w2.heap.size ≠ w.heap.size + 1 := Nat.ne_of_gt hrl
  have hap : w2.heap.size ≠ ad.block := fun e => Nat.ne_of_lt hab e.symm
  have HD1 : Hid (∀ ad0, D1 = some ad0 → 0 < d'.length → w2.heap.size ≠ ad0.block) := fun ad0 e0 hl e => by
    obtain ⟨ad5, e5, hb5, _⟩ := HS1w.out.out hl
    rw [e0] at e5
    injection e5 with e5
    rw [← e5, ← e] at hb5
    exact Nat.lt_irrefl _ hb5
  obtain ⟨pp, hpp⟩ : ∃ p, p = w2.heap.size := ⟨_, rfl⟩
  rw [← hpp] at HP hap hkp hrp hpw HD1
  rw [← hpp]
  clear hW3 hpp hss hcap hc0 hs0 hab CC HBC hkl hrl HS1w hc1 hs1 hab1 HW
  replace HK := HK.dr; replace HR := HR.dr; replace HP := HP.dr; replace HB := HB.dr; replace HS0 := HS0.dr; replace HS1 := HS1.dr
  refine wp_region_held_drew (S := fun w' => w'.cell? ⟨w.heap.size, 0, none⟩ = some (.slice A n c) ∧ w'.cell? ⟨w.heap.size, 1, none⟩ = some (.slice B m d) ∧ w'.cell? ad = some (.slice D0 a.length c0)) (by kernel_rfl) ?_ (fun hHeld => ?_)
  · exact ⟨HK.c0, HK.c1, hcell⟩
  have hadl : ad.block < W3.drew.heap.size := hadw
  replace hcell : W3.drew.cell? ad = some (.slice D0 a.length c0) := hcell
  replace hcell1 : W3.drew.cell? ⟨ad.block, ad.off + 1, none⟩ = some (.slice D1 d'.length c1) := hcell1
  have hp_f0 := HP.f0
  generalize W3.drew = Wd at *
  have hpl := HP.lt
  have hrl2 := HR.lt
  have hwb := HB.size
  obtain ⟨bs, hbs⟩ : ∃ b, b = Wd.heap.size := ⟨_, rfl⟩
  rw [← hbs] at hpl hrl2 hwb
  have HBS := khide hbs
  clear hbs
  (refine wpAnyH_take (i := 0) (v := ?_) rfl (by decide +kernel) (by decide +kernel) (by decide +kernel) (fun _ _ _ h => h) (Or.inl ⟨by rfl, ?_⟩) (by assumption) ?_; rotate_left; (focus ((intro w hSw; (try dsimp only at hSw); go_simp); (try (with_reducible rfl)); done)); (try simp only [List.getElem_toArray, List.getElem_cons_zero, List.getElem_cons_succ, Act.put, List.setIfInBounds_toArray, List.set_cons_zero, List.set_cons_succ]))
  (refine wpAnyH_take (i := 1) (v := ?_) rfl (by decide +kernel) (by decide +kernel) (by decide +kernel) (fun _ _ _ h => h) (Or.inl ⟨by rfl, ?_⟩) (by assumption) ?_; rotate_left; (focus ((intro w hSw; (try dsimp only at hSw); go_simp); (try (with_reducible rfl)); done)); (try simp only [List.getElem_toArray, List.getElem_cons_zero, List.getElem_cons_succ, Act.put, List.setIfInBounds_toArray, List.set_cons_zero, List.set_cons_succ]))
  (refine wpAnyH_take (i := 2) (v := ?_) rfl (by decide +kernel) (by decide +kernel) (by decide +kernel) (fun _ _ _ h => h) (Or.inl ⟨by rfl, ?_⟩) (by assumption) ?_; rotate_left; (focus ((intro w hSw; (try dsimp only at hSw); go_simp); (try (with_reducible rfl)); done)); (try simp only [List.getElem_toArray, List.getElem_cons_zero, List.getElem_cons_succ, Act.put, List.setIfInBounds_toArray, List.set_cons_zero, List.set_cons_succ]))
  (refine wpAnyH_take (i := 3) (v := ?_) rfl (by decide +kernel) (by decide +kernel) (by decide +kernel) (fun _ _ _ h => h) (Or.inl ⟨by rfl, ?_⟩) (by assumption) ?_; rotate_left; (focus ((intro w hSw; (try dsimp only at hSw); go_simp); (try (with_reducible rfl)); done)); (try simp only [List.getElem_toArray, List.getElem_cons_zero, List.getElem_cons_succ, Act.put, List.setIfInBounds_toArray, List.set_cons_zero, List.set_cons_succ]))
  (refine wpAnyH_ready (rs := [4]) (by decide +kernel) (by simp) ?_; refine AllReadyH.cons rfl (fun K hK => ?_) AllReadyH.nil; go_simp; (go_at_call 69; (with_reducible refine (CA1.out _ _ _ _ HB HS0 rfl hcp).mono ?_); rintro e w4 ⟨A1, k1, rfl, hA1, HO, hb⟩; replace HO : Hid (w4.ownsRow bs 125 3 (.slice A1 r.length k1) r.length (cellsA r)) := (by have h9 := HO; rw [← HBS.out] at h9; exact h9); replace HK := HK.up hb.hid; replace HR := HR.up hb.hid; replace HP := HP.up hb.hid; replace HB := HB.up hb.hid; replace HS1 := HS1.up hb.hid; replace hcell : w4.cell? ad = some (.slice D0 a.length c0) := (hb.cell hadl).trans hcell; replace hcell1 : w4.cell? ⟨ad.block, ad.off + 1, none⟩ = some (.slice D1 d'.length c1) := (hb.cell (p := ⟨ad.block, ad.off + 1, none⟩) hadl).trans hcell1; have KS : Hid (∀ v : Value, (w4.setCell ⟨pp, 0, none⟩ v).cell? ⟨w.heap.size, 0, none⟩ = some (.slice A n c) ∧ (w4.setCell ⟨pp, 0, none⟩ v).cell? ⟨w.heap.size, 1, none⟩ = some (.slice B m d) ∧ (w4.setCell ⟨pp, 0, none⟩ v).cell? ad = some (.slice D0 a.length c0)) := fun v => ⟨(World.cell?_setCell_far _ _ _ _ hkp).trans HK.c0, (World.cell?_setCell_far _ _ _ _ hkp).trans HK.c1, (World.cell?_setCell_far _ _ _ _ hap).trans hcell⟩; clear hp_f0; have hp_f0 := HP.f0; have hp_0 := HP.c0); (try (go_wp2_with fail)); refine hK.out _ _ ?_ (fun hHeld => ?_); (focus ((try dsimp only); (first | (with_reducible exact ⟨HK.c0, HK.c1, hcell⟩) | exact KS.out _))); clear hK K; (try simp only [List.getElem_toArray, List.getElem_cons_zero, List.getElem_cons_succ, Act.put, List.setIfInBounds_toArray, List.set_cons_zero, List.set_cons_succ]))
  (refine wpAnyH_take (i := 5) (v := ?_) rfl (by decide +kernel) (by decide +kernel) (by decide +kernel) (fun _ _ _ h => h) (Or.inl ⟨by rfl, ?_⟩) (by assumption) ?_; rotate_left; (focus ((intro w hSw; (try dsimp only at hSw); go_simp); (try (with_reducible rfl)); done)); (try simp only [List.getElem_toArray, List.getElem_cons_zero, List.getElem_cons_succ, Act.put, List.setIfInBounds_toArray, List.set_cons_zero, List.set_cons_succ]))
  (refine wpAnyH_take (i := 6) (v := ?_) rfl (by decide +kernel) (by decide +kernel) (by decide +kernel) (fun _ _ _ h => h) (Or.inl ⟨by rfl, ?_⟩) (by assumption) ?_; rotate_left; (focus ((intro w hSw; (try dsimp only at hSw); go_simp); (try (with_reducible rfl)); done)); (try simp only [List.getElem_toArray, List.getElem_cons_zero, List.getElem_cons_succ, Act.put, List.setIfInBounds_toArray, List.set_cons_zero, List.set_cons_succ]))
  (refine wpAnyH_take (i := 7) (v := ?_) rfl (by decide +kernel) (by decide +kernel) (by decide +kernel) (fun _ _ _ h => h) (Or.inl ⟨by rfl, ?_⟩) (by assumption) ?_; rotate_left; (focus ((intro w hSw; (try dsimp only at hSw); go_simp); (try (with_reducible rfl)); done)); (try simp only [List.getElem_toArray, List.getElem_cons_zero, List.getElem_cons_succ, Act.put, List.setIfInBounds_toArray, List.set_cons_zero, List.set_cons_succ]))
  (refine wpAnyH_take (i := 8) (v := ?_) rfl (by decide +kernel) (by decide +kernel) (by decide +kernel) (fun _ _ _ h => h) (Or.inl ⟨by rfl, ?_⟩) (by assumption) ?_; rotate_left; (focus ((intro w hSw; (try dsimp only at hSw); go_simp); (try (with_reducible rfl)); done)); (try simp only [List.getElem_toArray, List.getElem_cons_zero, List.getElem_cons_succ, Act.put, List.setIfInBounds_toArray, List.set_cons_zero, List.set_cons_succ]))
  (refine wpAnyH_ready (rs := [9]) (by decide +kernel) (by simp) ?_; refine AllReadyH.cons rfl (fun K hK => ?_) AllReadyH.nil; go_simp; refine hK.out _ _ ?_ (fun hHeld => ?_); (focus ((try dsimp only); (first | (with_reducible exact ⟨HK.c0, HK.c1, hcell⟩) | exact KS.out _))); clear hK K; (try simp only [List.getElem_toArray, List.getElem_cons_zero, List.getElem_cons_succ, Act.put, List.setIfInBounds_toArray, List.set_cons_zero, List.set_cons_succ]))
  (refine wpAnyH_take (i := 10) (v := ?_) rfl (by decide +kernel) (by decide +kernel) (by decide +kernel) (fun _ _ _ h => h) (Or.inl ⟨by rfl, ?_⟩) (by assumption) ?_; rotate_left; (focus ((intro w hSw; (try dsimp only at hSw); go_simp); (try (with_reducible rfl)); done)); (try simp only [List.getElem_toArray, List.getElem_cons_zero, List.getElem_cons_succ, Act.put, List.setIfInBounds_toArray, List.set_cons_zero, List.set_cons_succ]))
  refine wpAnyH_done (by decide +kernel) ?_ _
  go_upto_region 9 with fail
  refine kwp_named ?_
  intro W5 hW5
  have HOLD := HP.c0
  replace HP : At W5 pp [.slice A1 r.length k1, .slice none 0 0, .string ⟨#[49]⟩] := by rw [hW5]; exact HP.put (i := 0) (by simp) _
  replace HR : At W5 (w.heap.size + 1) [.slice none 0 0, .slice none 0 0, .string ⟨#[]⟩] := by rw [hW5]; exact HR.far hrp _
  replace HK : At W5 w.heap.size [.slice A n c, .slice B m d] := by rw [hW5]; exact HK.far hkp _
  replace HB : Bel w W5 := by rw [hW5]; exact Below.setCell HB hpw _
  replace hcell1 : W5.cell? ⟨ad.block, ad.off + 1, none⟩ = some (.slice D1 d'.length c1) := by rw [hW5]; exact (World.cell?_setCell_far _ _ (⟨ad.block, ad.off + 1, none⟩ : Addr) _ hap).trans hcell1
  replace HS1 : Ss W5 D1 d' := by rw [hW5]; exact ss_put HS1 HOLD _
  replace HO : Hid (W5.ownsRow bs 125 3 (.slice A1 r.length k1) r.length (cellsA r)) := by rw [hW5]; exact ownsRow_setCell_below HO.out hpl _
  clear hW5 HOLD hp_f0 hp_0 KS hcell hadl hb HS0
  obtain ⟨x, dl, rfl⟩ : ∃ x dl, d' = x :: dl := by
    cases d' with
    | nil => exact absurd rfl hne
    | cons x dl => exact ⟨x, dl, rfl⟩
  obtain ⟨adx, rfl, hxb, hxc⟩ := HS1.out (by simp)
  have hx0 : W5.cell? adx = some (.string x) := by have h9 := hxc 0 x rfl; rwa [addr_zero] at h9
  have hpx : pp ≠ adx.block := HD1.out adx rfl (by simp)
  obtain ⟨bn, hbn⟩ : ∃ b, numW x.data.toList = b := ⟨_, rfl⟩
  have CN : Hid (∀ W : World, Calls Tryz.prog 70 #[.string x] W fun e w' => e = .returned (.bool bn) ∧ W = w') := fun W => hbn ▸ rnumber_any (hau x (by simp)) W
  have HBN := khide hbn
  have HZ : Hid ((x :: dl).length = dl.length + 1) := rfl
  obtain ⟨z, hz⟩ : ∃ z, (x :: dl).length = z := ⟨_, rfl⟩
  have z0 : 0 < z := by rw [← hz]; simp
  have z1 : (0 : Int) < (z : Int) := by omega
  have z2 : 1 ≤ z := z0
  have z5 : (1 : Int) ≤ (z : Int) := by omega
  have z3 : decide ((0 : Int) < (z : Int)) = true := decide_eq_true z1
  have z4 : ((z : Int) == 0) = false := by rw [beq_eq_false_iff_ne]; omega
  rw [hz] at hcell1 hcp1 HZ
  have HZZ := khide hz
  clear hbn hxc hz hau HD1 hne
  obtain ⟨y, hy⟩ : ∃ y, (x.toList != [49]) = y := ⟨_, rfl⟩
  obtain ⟨kb, hkb⟩ : ∃ k, (bn && y) = k := ⟨_, rfl⟩
  have HE : Hid (headD (x :: dl) = if kb = true then (x, dl) else (oneB, x :: dl)) := hkb ▸ headD_kb HBN.out hy
  clear HBN
  go_upto_region 10 with fail
  go_cut [61] from 47 to 61 (fun v w' => v = .bool kb ∧ w' = W5)
  case first =>
    have HSy : (x.toList == [49]) = !y := by rw [← hy, bne, Bool.not_not]
    cases bn <;> cases y
    all_goals (
      simp only [Bool.not_true, Bool.not_false] at HSy
      go_wp2_with (first | (go_at_call 70; (with_reducible refine (CN.out _).mono ?_); rintro e w6 ⟨rfl, rfl⟩) | fail)
      go_meet
      case rel => rw [← hkb]; exact ⟨by first | rfl | simp, rfl⟩)
  case rest =>
  obtain ⟨rfl, rfl⟩ := hcut
  clear hkb CN hy
  go_upto_if 61 with fail
  go_cut [9] from 62 to 71 (fun dv w' => ∃ D2 j2 g2, dv = .slice D2 j2 g2 ∧ j2 = (headD (x :: dl)).2.length ∧ j2 ≤ g2 ∧ Ss w' D2 (headD (x :: dl)).2 ∧ At w' pp [.slice A1 r.length k1, .slice none 0 0, .string (headD (x :: dl)).1] ∧ At w' w.heap.size [.slice A n c, .slice B m d] ∧ At w' (w.heap.size + 1) [.slice none 0 0, .slice none 0 0, .string ⟨#[]⟩] ∧ Bel w w' ∧ Hid (w'.ownsRow bs 125 3 (.slice A1 r.length k1) r.length (cellsA r)))
  case first =>
    cases kb with
    | false =>
      have E9 : Hid (headD (x :: dl) = (oneB, x :: dl)) := HE.out.trans (if_neg (by simp))
      clear HE
      go_wp2_with fail
      go_meet
      case rel => rw [E9.out]; exact ⟨some adx, z, c1, rfl, HZZ.out.symm, hcp1, HS1, HP, HK, HR, HB, HO⟩
    | true =>
      have E9 : Hid (headD (x :: dl) = (x, dl)) := HE.out.trans (if_pos rfl)
      clear HE
      go_upto_region 11 with fail
      replace HP := HP.dr; replace HB := HB.dr; replace HS1 := HS1.dr; replace HK := HK.dr; replace HR := HR.dr
      have KX : Hid (∀ v : Value, (wc.drew.setCell ⟨pp, 2, none⟩ v).cell? adx = some (.string x)) := fun v => (World.cell?_setCell_far _ _ _ _ hpx).trans hx0
      have hp_f2 := HP.f2; have hp_2 := HP.c2; have hp_l := HP.lt
      obtain ⟨D9, hD9⟩ : ∃ D9, (if c1 = 1 then some adx else some (⟨adx.block, adx.off + 1, none⟩ : Addr)) = D9 := ⟨_, rfl⟩
      refine wp_region_held_drew (S := fun w' => w'.cell? adx = some (.string x)) (by kernel_rfl) ?_ (fun hHeld => ?_)
      · exact hx0
      (refine wpAnyH_take (i := 0) (v := ?_) rfl (by decide +kernel) (by decide +kernel) (by decide +kernel) (fun _ _ _ h => h) (Or.inl ⟨by rfl, ?_⟩) (by assumption) ?_; rotate_left; (focus ((intro w hSw; (try dsimp only at hSw); go_simp); (try (with_reducible rfl)); done)); (try simp only [List.getElem_toArray, List.getElem_cons_zero, List.getElem_cons_succ, Act.put, List.setIfInBounds_toArray, List.set_cons_zero, List.set_cons_succ]))
      (refine wpAnyH_take (i := 1) (v := ?_) rfl (by decide +kernel) (by decide +kernel) (by decide +kernel) (fun _ _ _ h => h) (Or.inl ⟨by rfl, ?_⟩) (by assumption) ?_; rotate_left; (focus ((intro w hSw; (try dsimp only at hSw); go_simp); (try (with_reducible rfl)); done)); (try simp only [List.getElem_toArray, List.getElem_cons_zero, List.getElem_cons_succ, Act.put, List.setIfInBounds_toArray, List.set_cons_zero, List.set_cons_succ]))
      (refine wpAnyH_take (i := 2) (v := ?_) rfl (by decide +kernel) (by decide +kernel) (by decide +kernel) (fun _ _ _ h => h) (Or.inl ⟨by rfl, ?_⟩) (by assumption) ?_; rotate_left; (focus ((intro w hSw; (try dsimp only at hSw); go_simp); (try (with_reducible rfl)); done)); (try simp only [List.getElem_toArray, List.getElem_cons_zero, List.getElem_cons_succ, Act.put, List.setIfInBounds_toArray, List.set_cons_zero, List.set_cons_succ]))
      (refine wpAnyH_take (i := 3) (v := ?_) rfl (by decide +kernel) (by decide +kernel) (by decide +kernel) (fun _ _ _ h => h) (Or.inl ⟨by rfl, ?_⟩) (by assumption) ?_; rotate_left; (focus ((intro w hSw; (try dsimp only at hSw); go_simp); (try (with_reducible rfl)); done)); (try simp only [List.getElem_toArray, List.getElem_cons_zero, List.getElem_cons_succ, Act.put, List.setIfInBounds_toArray, List.set_cons_zero, List.set_cons_succ]))
      (refine wpAnyH_take (i := 4) (v := ?_) rfl (by decide +kernel) (by decide +kernel) (by decide +kernel) (fun _ _ _ h => h) (Or.inl ⟨by rfl, ?_⟩) (by assumption) ?_; rotate_left; (focus ((intro w hSw; (try dsimp only at hSw); go_simp); (try (with_reducible rfl)); done)); (try simp only [List.getElem_toArray, List.getElem_cons_zero, List.getElem_cons_succ, Act.put, List.setIfInBounds_toArray, List.set_cons_zero, List.set_cons_succ]))
      (refine wpAnyH_take (i := 5) (v := ?_) rfl (by decide +kernel) (by decide +kernel) (by decide +kernel) (fun _ _ _ h => h) (Or.inl ⟨by rfl, ?_⟩) (by assumption) ?_; rotate_left; (focus ((intro w hSw; (try dsimp only at hSw); go_simp); (try (with_reducible rfl)); done)); (try simp only [List.getElem_toArray, List.getElem_cons_zero, List.getElem_cons_succ, Act.put, List.setIfInBounds_toArray, List.set_cons_zero, List.set_cons_succ]))
      (refine wpAnyH_ready (rs := [6]) (by decide +kernel) (by simp) ?_; refine AllReadyH.cons rfl (fun K hK => ?_) AllReadyH.nil; go_simp; refine hK.out _ _ ?_ (fun hHeld => ?_); (focus ((try dsimp only); (first | exact hx0 | exact KX.out _))); clear hK K; (try simp only [List.getElem_toArray, List.getElem_cons_zero, List.getElem_cons_succ, Act.put, List.setIfInBounds_toArray, List.set_cons_zero, List.set_cons_succ]))
      (refine wpAnyH_take (i := 7) (v := ?_) rfl (by decide +kernel) (by decide +kernel) (by decide +kernel) (fun _ _ _ h => h) (Or.inl ⟨by rfl, ?_⟩) (by assumption) ?_; rotate_left; (focus ((intro w hSw; (try dsimp only at hSw); go_simp); (try (with_reducible rfl)); done)); (try simp only [List.getElem_toArray, List.getElem_cons_zero, List.getElem_cons_succ, Act.put, List.setIfInBounds_toArray, List.set_cons_zero, List.set_cons_succ]))
      refine wpAnyH_done (by decide +kernel) ?_ _
      go_wp2_with fail
      go_meet
      case rel =>
        rw [E9.out]
        refine ⟨D9, z - 1, c1 - 1, rfl, ?_, ?_, ?_, HP.put (i := 2) (by simp) _, HK.far hkp _, HR.far hrp _, Below.setCell HB hpw _, khide (ownsRow_setCell_below HO.out hpl _)⟩
        · show z - 1 = dl.length; have h9 := HZ.out; omega
        · omega
        · have h9 := HS1.sub (t := 1) (g := c1) (by rw [HZZ.out]; exact hcp1)
          have h8 : Ss wc.drew (if c1 = 1 then some adx else some ⟨adx.block, adx.off + 1, none⟩) dl := by rw [add_one']; exact h9
          have h7 := ss_put2 h8 HP.c2 (fun ad0 e0 => by
            by_cases h1 : c1 = 1
            · rw [if_pos h1] at e0; injection e0 with e0; rw [← e0]; exact hpx
            · rw [if_neg h1] at e0; injection e0 with e0; rw [← e0]; exact hpx) (.string x)
          rw [hD9] at h7
          exact h7
  case rest =>
    obtain ⟨D2, j2, g2, rfl, hj2, hjg2, HS2, HP, HK, HR, HB, HO⟩ := hcut
    replace hj2 := khide hj2
    replace hjg2 := khide hjg2
    obtain ⟨tt, htt⟩ : ∃ t, (headD (x :: dl)).1 = t := ⟨_, rfl⟩
    rw [htt] at HP
    have HTT := khide htt
    clear htt HS1 hx0 hpx hcell1 hap
    have hk_0 := HK.c0; have hk_1 := HK.c1; have hk_l := HK.lt; have hp_f1 := HP.f1; have hp_1 := HP.c1; have hp_l := HP.lt
    obtain ⟨b2, hb2⟩ : ∃ b, b = wc.heap.size := ⟨_, rfl⟩
    have hpb : pp < b2 := by rw [hb2]; exact HP.lt
    have hrb : w.heap.size + 1 < b2 := by rw [hb2]; exact HR.lt
    have hwb2 : w.heap.size ≤ b2 := by rw [hb2]; exact HB.size
    have HB2 := khide hb2
    clear hb2
    go_upto_region 16 with (first | (go_at_call 69; (with_reducible refine (CA2.out _ _ _ _ HB HS2 hj2.out hjg2.out).mono ?_); rintro e w7 ⟨A2, k2, rfl, hA2, HO2, hb⟩; clear hk_0 hk_1 hk_l hp_f1 hp_1 hp_l; replace HK := HK.up hb.hid; replace HP := HP.up hb.hid; replace HR := HR.up hb.hid; replace HB := HB.up hb.hid; replace HO := khide (own_up HO.out hb.hid); replace HO2 : Hid (w7.ownsRow b2 125 3 (.slice A2 s.length k2) s.length (cellsA s)) := (by have h9 := HO2; rw [← HB2.out] at h9; exact h9); have hk_0 := HK.c0; have hk_1 := HK.c1; have hk_l := HK.lt; have hp_f1 := HP.f1; have hp_1 := HP.c1; have hp_l := HP.lt) | fail)
    refine kwp_named ?_
    intro W8 hW8
    replace HP : At W8 pp [.slice A1 r.length k1, .slice A2 s.length k2, .string tt] := by rw [hW8]; exact HP.put (i := 1) (by simp) _
    replace HR : At W8 (w.heap.size + 1) [.slice none 0 0, .slice none 0 0, .string ⟨#[]⟩] := by rw [hW8]; exact HR.far hrp _
    replace HB : Bel w W8 := by rw [hW8]; exact Below.setCell HB hpw _
    replace HO : Hid (W8.ownsRow bs 125 3 (.slice A1 r.length k1) r.length (cellsA r)) := by rw [hW8]; exact ownsRow_setCell_below HO.out hpl _
    replace HO2 : Hid (W8.ownsRow b2 125 3 (.slice A2 s.length k2) s.length (cellsA s)) := by rw [hW8]; exact ownsRow_setCell_below HO2.out hpb _
    clear hW8 hk_0 hk_1 hk_l hp_f1 hp_1 hp_l hb HK HS2
    replace HR := HR.dr; replace HP := HP.dr; replace HB := HB.dr; replace HO : Hid (W8.drew.ownsRow bs 125 3 (.slice A1 r.length k1) r.length (cellsA r)) := HO; replace HO2 : Hid (W8.drew.ownsRow b2 125 3 (.slice A2 s.length k2) s.length (cellsA s)) := HO2
    refine wp_region_held_drew (S := fun w' => w'.cell? ⟨pp, 0, none⟩ = some (.slice A1 r.length k1) ∧ w'.cell? ⟨pp, 1, none⟩ = some (.slice A2 s.length k2) ∧ w'.cell? ⟨pp, 2, none⟩ = some (.string tt)) (by kernel_rfl) ?_ (fun hHeld => ?_)
    · exact ⟨HP.c0, HP.c1, HP.c2⟩
    have hr_f0 := HR.f0; have hr_f1 := HR.f1; have hr_f2 := HR.f2; have hr_0 := HR.c0; have hr_1 := HR.c1; have hr_2 := HR.c2; have hr_l := HR.lt
    have hrq : w.heap.size + 1 ≠ pp := fun e => hrp e.symm
    generalize W8.drew = Wd at *
    have KS : Hid (∀ x y z : Value, (((Wd.setCell ⟨w.heap.size + 1, 0, none⟩ x).setCell ⟨w.heap.size + 1, 1, none⟩ y).setCell ⟨w.heap.size + 1, 2, none⟩ z).cell? ⟨pp, 0, none⟩ = some (.slice A1 r.length k1) ∧ (((Wd.setCell ⟨w.heap.size + 1, 0, none⟩ x).setCell ⟨w.heap.size + 1, 1, none⟩ y).setCell ⟨w.heap.size + 1, 2, none⟩ z).cell? ⟨pp, 1, none⟩ = some (.slice A2 s.length k2) ∧ (((Wd.setCell ⟨w.heap.size + 1, 0, none⟩ x).setCell ⟨w.heap.size + 1, 1, none⟩ y).setCell ⟨w.heap.size + 1, 2, none⟩ z).cell? ⟨pp, 2, none⟩ = some (.string tt)) := fun x y z => by
      have h5 := ((HP.far hrq (i := 0) x).far hrq (i := 1) y).far hrq (i := 2) z
      exact ⟨h5.c0, h5.c1, h5.c2⟩
    (refine wpAnyH_take (i := 0) (v := ?_) rfl (by decide +kernel) (by decide +kernel) (by decide +kernel) (fun _ _ _ h => h) (Or.inl ⟨by rfl, ?_⟩) (by assumption) ?_; rotate_left; (focus ((intro w hSw; (try dsimp only at hSw); go_simp); (try (with_reducible rfl)); done)); (try simp only [List.getElem_toArray, List.getElem_cons_zero, List.getElem_cons_succ, Act.put, List.setIfInBounds_toArray, List.set_cons_zero, List.set_cons_succ]))
    (refine wpAnyH_take (i := 1) (v := ?_) rfl (by decide +kernel) (by decide +kernel) (by decide +kernel) (fun _ _ _ h => h) (Or.inl ⟨by rfl, ?_⟩) (by assumption) ?_; rotate_left; (focus ((intro w hSw; (try dsimp only at hSw); go_simp); (try (with_reducible rfl)); done)); (try simp only [List.getElem_toArray, List.getElem_cons_zero, List.getElem_cons_succ, Act.put, List.setIfInBounds_toArray, List.set_cons_zero, List.set_cons_succ]))
    (refine wpAnyH_take (i := 2) (v := ?_) rfl (by decide +kernel) (by decide +kernel) (by decide +kernel) (fun _ _ _ h => h) (Or.inl ⟨by rfl, ?_⟩) (by assumption) ?_; rotate_left; (focus ((intro w hSw; (try dsimp only at hSw); go_simp); (try (with_reducible rfl)); done)); (try simp only [List.getElem_toArray, List.getElem_cons_zero, List.getElem_cons_succ, Act.put, List.setIfInBounds_toArray, List.set_cons_zero, List.set_cons_succ]))
    (refine wpAnyH_take (i := 3) (v := ?_) rfl (by decide +kernel) (by decide +kernel) (by decide +kernel) (fun _ _ _ h => h) (Or.inl ⟨by rfl, ?_⟩) (by assumption) ?_; rotate_left; (focus ((intro w hSw; (try dsimp only at hSw); go_simp); (try (with_reducible rfl)); done)); (try simp only [List.getElem_toArray, List.getElem_cons_zero, List.getElem_cons_succ, Act.put, List.setIfInBounds_toArray, List.set_cons_zero, List.set_cons_succ]))
    (refine wpAnyH_take (i := 4) (v := ?_) rfl (by decide +kernel) (by decide +kernel) (by decide +kernel) (fun _ _ _ h => h) (Or.inl ⟨by rfl, ?_⟩) (by assumption) ?_; rotate_left; (focus ((intro w hSw; (try dsimp only at hSw); go_simp); (try (with_reducible rfl)); done)); (try simp only [List.getElem_toArray, List.getElem_cons_zero, List.getElem_cons_succ, Act.put, List.setIfInBounds_toArray, List.set_cons_zero, List.set_cons_succ]))
    (refine wpAnyH_take (i := 5) (v := ?_) rfl (by decide +kernel) (by decide +kernel) (by decide +kernel) (fun _ _ _ h => h) (Or.inl ⟨by rfl, ?_⟩) (by assumption) ?_; rotate_left; (focus ((intro w hSw; (try dsimp only at hSw); go_simp); (try (with_reducible rfl)); done)); (try simp only [List.getElem_toArray, List.getElem_cons_zero, List.getElem_cons_succ, Act.put, List.setIfInBounds_toArray, List.set_cons_zero, List.set_cons_succ]))
    (refine wpAnyH_take (i := 6) (v := ?_) rfl (by decide +kernel) (by decide +kernel) (by decide +kernel) (fun _ _ _ h => h) (Or.inl ⟨by rfl, ?_⟩) (by assumption) ?_; rotate_left; (focus ((intro w hSw; (try dsimp only at hSw); go_simp); (try (with_reducible rfl)); done)); (try simp only [List.getElem_toArray, List.getElem_cons_zero, List.getElem_cons_succ, Act.put, List.setIfInBounds_toArray, List.set_cons_zero, List.set_cons_succ]))
    (refine wpAnyH_take (i := 7) (v := ?_) rfl (by decide +kernel) (by decide +kernel) (by decide +kernel) (fun _ _ _ h => h) (Or.inl ⟨by rfl, ?_⟩) (by assumption) ?_; rotate_left; (focus ((intro w hSw; (try dsimp only at hSw); go_simp); (try (with_reducible rfl)); done)); (try simp only [List.getElem_toArray, List.getElem_cons_zero, List.getElem_cons_succ, Act.put, List.setIfInBounds_toArray, List.set_cons_zero, List.set_cons_succ]))
    (refine wpAnyH_take (i := 8) (v := ?_) rfl (by decide +kernel) (by decide +kernel) (by decide +kernel) (fun _ _ _ h => h) (Or.inl ⟨by rfl, ?_⟩) (by assumption) ?_; rotate_left; (focus ((intro w hSw; (try dsimp only at hSw); go_simp); (try (with_reducible rfl)); done)); (try simp only [List.getElem_toArray, List.getElem_cons_zero, List.getElem_cons_succ, Act.put, List.setIfInBounds_toArray, List.set_cons_zero, List.set_cons_succ]))
    (refine wpAnyH_take (i := 9) (v := ?_) rfl (by decide +kernel) (by decide +kernel) (by decide +kernel) (fun _ _ _ h => h) (Or.inl ⟨by rfl, ?_⟩) (by assumption) ?_; rotate_left; (focus ((intro w hSw; (try dsimp only at hSw); go_simp); (try (with_reducible rfl)); done)); (try simp only [List.getElem_toArray, List.getElem_cons_zero, List.getElem_cons_succ, Act.put, List.setIfInBounds_toArray, List.set_cons_zero, List.set_cons_succ]))
    (refine wpAnyH_take (i := 10) (v := ?_) rfl (by decide +kernel) (by decide +kernel) (by decide +kernel) (fun _ _ _ h => h) (Or.inl ⟨by rfl, ?_⟩) (by assumption) ?_; rotate_left; (focus ((intro w hSw; (try dsimp only at hSw); go_simp); (try (with_reducible rfl)); done)); (try simp only [List.getElem_toArray, List.getElem_cons_zero, List.getElem_cons_succ, Act.put, List.setIfInBounds_toArray, List.set_cons_zero, List.set_cons_succ]))
    (refine wpAnyH_take (i := 11) (v := ?_) rfl (by decide +kernel) (by decide +kernel) (by decide +kernel) (fun _ _ _ h => h) (Or.inl ⟨by rfl, ?_⟩) (by assumption) ?_; rotate_left; (focus ((intro w hSw; (try dsimp only at hSw); go_simp); (try (with_reducible rfl)); done)); (try simp only [List.getElem_toArray, List.getElem_cons_zero, List.getElem_cons_succ, Act.put, List.setIfInBounds_toArray, List.set_cons_zero, List.set_cons_succ]))
    (refine wpAnyH_take (i := 12) (v := ?_) rfl (by decide +kernel) (by decide +kernel) (by decide +kernel) (fun _ _ _ h => h) (Or.inl ⟨by rfl, ?_⟩) (by assumption) ?_; rotate_left; (focus ((intro w hSw; (try dsimp only at hSw); go_simp); (try (with_reducible rfl)); done)); (try simp only [List.getElem_toArray, List.getElem_cons_zero, List.getElem_cons_succ, Act.put, List.setIfInBounds_toArray, List.set_cons_zero, List.set_cons_succ]))
    (refine wpAnyH_take (i := 13) (v := ?_) rfl (by decide +kernel) (by decide +kernel) (by decide +kernel) (fun _ _ _ h => h) (Or.inl ⟨by rfl, ?_⟩) (by assumption) ?_; rotate_left; (focus ((intro w hSw; (try dsimp only at hSw); go_simp); (try (with_reducible rfl)); done)); (try simp only [List.getElem_toArray, List.getElem_cons_zero, List.getElem_cons_succ, Act.put, List.setIfInBounds_toArray, List.set_cons_zero, List.set_cons_succ]))
    (refine wpAnyH_take (i := 14) (v := ?_) rfl (by decide +kernel) (by decide +kernel) (by decide +kernel) (fun _ _ _ h => h) (Or.inl ⟨by rfl, ?_⟩) (by assumption) ?_; rotate_left; (focus ((intro w hSw; (try dsimp only at hSw); go_simp); (try (with_reducible rfl)); done)); (try simp only [List.getElem_toArray, List.getElem_cons_zero, List.getElem_cons_succ, Act.put, List.setIfInBounds_toArray, List.set_cons_zero, List.set_cons_succ]))
    (refine wpAnyH_ready (rs := [15]) (by decide +kernel) (by simp) ?_; refine AllReadyH.cons rfl (fun K hK => ?_) AllReadyH.nil; go_simp; refine hK.out _ _ ?_ (fun hHeld => ?_); (focus ((try dsimp only); (first | (with_reducible exact ⟨HP.c0, HP.c1, HP.c2⟩) | exact KS.out _ _ _))); clear hK K; (try simp only [List.getElem_toArray, List.getElem_cons_zero, List.getElem_cons_succ, Act.put, List.setIfInBounds_toArray, List.set_cons_zero, List.set_cons_succ]))
    (refine wpAnyH_take (i := 16) (v := ?_) rfl (by decide +kernel) (by decide +kernel) (by decide +kernel) (fun _ _ _ h => h) (Or.inl ⟨by rfl, ?_⟩) (by assumption) ?_; rotate_left; (focus ((intro w hSw; (try dsimp only at hSw); go_simp); (try (with_reducible rfl)); done)); (try simp only [List.getElem_toArray, List.getElem_cons_zero, List.getElem_cons_succ, Act.put, List.setIfInBounds_toArray, List.set_cons_zero, List.set_cons_succ]))
    refine wpAnyH_done (by decide +kernel) ?_ _
    go_wp2_with fail
    have hs : w.heap.size ≤ w.heap.size + 1 := Nat.le_succ _
    refine bodyPost_ret (v := .tuple #[.agg #[.slice A1 r.length k1, .slice A2 s.length k2, .string tt], .bool false]) (by simp [results, Tryz.results43, go_sem, hr_0, hr_1, hr_2, hr_l]) rfl ⟨_, _, _, _, _, _, _, rfl, kbelow3 HB hs _ _ _⟩
set_option maxHeartbeats 8000000 in
theorem part_two_ok {r s : List AL} (hne : d' ≠ []) (hr1 : r.length ≤ 1000000) (hs1 : s.length ≤ 1000000) (hr : r.length + s.length ≤ 8) (h2 : Ss w D l) (hj : j = l.length) (hjl : j ≤ 1000000) (hc : cutBy perB l = [a, d']) (hau : ∀ x ∈ d', x.size ≤ 1000000) (CA1 : Hid (RAtoms w A B n c m d a (fun W => AtomsR W (some r)))) (CA2 : Hid (RAtoms w A B n c m d (headD d').2 (fun W => AtomsR W (some s)))) :
    Calls Tryz.prog 43 #[.agg #[.slice A n c, .slice B m d], .slice D j g] w (PartR w (some (r, s, (headD d').1))) := by
  obtain ⟨W1, hW1⟩ : ∃ X, X = (w.alloc (.cells #[.slice A n c, .slice B m d] 48)).alloc (.cells #[.slice none 0 0, .slice none 0 0, .string ⟨#[]⟩] 86) := ⟨_, rfl⟩
  have HK : At W1 w.heap.size [.slice A n c, .slice B m d] := by rw [hW1]; exact (at_new0 _ _ _).al _
  have HR : At W1 (w.heap.size + 1) [.slice none 0 0, .slice none 0 0, .string ⟨#[]⟩] := by rw [hW1]; exact at_new1 _ _ _ _
  have HB : Bel w W1 := by rw [hW1]; exact ((Bel.refl w).al _).al _
  have HB0 : Hid (Below w.heap.size w W1) := HB
  have CC : Hid (Calls Tryz.prog 42 #[.slice D j g, .string ⟨#[112, 101, 114]⟩] W1 (ListsC W1 [a, d'])) := hc ▸ rcut_any (t := perB) (h2.up HB0) hj hjl
  have e3 : decide ((r.length : Int) + (s.length : Int) ≤ 8) = true := decide_eq_true (by omega)
  have e4 : decide (r.length + s.length ≤ 8) = true := decide_eq_true (by omega)
  have e5 : IntKind.i64.wrap ((r.length : Int) + (s.length : Int)) = (r.length : Int) + (s.length : Int) := by rw [IntKind.wrap_i64]; omega
  clear hr hr1 hs1
  have HW := khide hW1
  clear hW1 h2 hj hjl hc HB0
  go_enter Tryz.func43, Tryz.ntmps43
  go_upto_region 1 with fail
  rw [← HW.out]
  go_upto_region 6 with (first | (go_at_call 42; (with_reducible refine (CC.out).mono ?_); rintro e w2 ⟨ad, cc, rfl, hss, hcap, hb2⟩; replace HK := HK.up hb2; replace HR := HR.up hb2; replace HB := HB.up hb2) | fail)
  obtain ⟨ad', D0, c0, e0, hab, hc0, hs0, -⟩ := hss.out.at_ (k := 0) (by simp)
  injection e0 with e0
  subst e0
  have hcp : a.length ≤ c0 := hcap 0 _ _ _ (by simp) hc0
  rw [addr_zero] at hc0
  replace hc0 : w2.cell? ad = some (.slice D0 a.length c0) := hc0
  have HS0 : Ss w2 D0 a := hs0
  obtain ⟨ad2, D1, c1, e1, hab1, hc1, hs1, -⟩ := hss.out.at_ (k := 1) (by simp)
  injection e1 with e1
  subst e1
  have hcp1 : d'.length ≤ c1 := hcap 1 _ _ _ (by simp) hc1
  rw [← add_one'] at hc1
  replace hc1 : w2.cell? ⟨ad.block, ad.off + 1, none⟩ = some (.slice D1 d'.length c1) := hc1
  have HS1 : Ss w2 D1 d' := hs1
  have hkl := HK.lt
  have hrl := HR.lt
  refine kwp_named ?_
  intro W3 hW3
  have HP : At W3 w2.heap.size [.slice none 0 0, .slice none 0 0, .string ⟨#[49]⟩] := by rw [hW3]; exact at_new0 _ _ _
  have HBC : Hid (Bel w2 W3) := by rw [hW3]; exact (Bel.refl w2).al _
  have hcell : W3.cell? ad = some (.slice D0 a.length c0) := (HBC.out.cell hab).trans hc0
  have hcell1 : W3.cell? ⟨ad.block, ad.off + 1, none⟩ = some (.slice D1 d'.length c1) := (HBC.out.cell (p := ⟨ad.block, ad.off + 1, none⟩) hab).trans hc1
  replace HS0 : Ss W3 D0 a := HS0.up HBC.out
  have HS1w : Hid (Ss w2 D1 d') := HS1
  replace HS1 : Ss W3 D1 d' := HS1.up HBC.out
  replace HB : Bel w W3 := HB.up HBC.out
  replace HK := HK.up HBC.out
  replace HR := HR.up HBC.out
  have hadw : ad.block < W3.heap.size := Nat.lt_of_lt_of_le hab HBC.out.size
  have hpw : w.heap.size ≤ w2.heap.size := Nat.le_of_lt hkl
  have hkp : w2.heap.size ≠ w.heap.size := Nat.ne_of_gt hkl
  have hrp : w2.heap.size ≠ w.heap.size + 1 := Nat.ne_of_gt hrl
  have hap : w2.heap.size ≠ ad.block := fun e => Nat.ne_of_lt hab e.symm
  have HD1 : Hid (∀ ad0, D1 = some ad0 → 0 < d'.length → w2.heap.size ≠ ad0.block) := fun ad0 e0 hl e => by
    obtain ⟨ad5, e5, hb5, _⟩ := HS1w.out.out hl
    rw [e0] at e5
    injection e5 with e5
    rw [← e5, ← e] at hb5
    exact Nat.lt_irrefl _ hb5
  obtain ⟨pp, hpp⟩ : ∃ p, p = w2.heap.size := ⟨_, rfl⟩
  rw [← hpp] at HP hap hkp hrp hpw HD1
  rw [← hpp]
  clear hW3 hpp hss hcap hc0 hs0 hab CC HBC hkl hrl HS1w hc1 hs1 hab1 HW
  replace HK := HK.dr; replace HR := HR.dr; replace HP := HP.dr; replace HB := HB.dr; replace HS0 := HS0.dr; replace HS1 := HS1.dr
  refine wp_region_held_drew (S := fun w' => w'.cell? ⟨w.heap.size, 0, none⟩ = some (.slice A n c) ∧ w'.cell? ⟨w.heap.size, 1, none⟩ = some (.slice B m d) ∧ w'.cell? ad = some (.slice D0 a.length c0)) (by kernel_rfl) ?_ (fun hHeld => ?_)
  · exact ⟨HK.c0, HK.c1, hcell⟩
  have hadl : ad.block < W3.drew.heap.size := hadw
  replace hcell : W3.drew.cell? ad = some (.slice D0 a.length c0) := hcell
  replace hcell1 : W3.drew.cell? ⟨ad.block, ad.off + 1, none⟩ = some (.slice D1 d'.length c1) := hcell1
  have hp_f0 := HP.f0
  generalize W3.drew = Wd at *
  have hpl := HP.lt
  have hrl2 := HR.lt
  have hwb := HB.size
  obtain ⟨bs, hbs⟩ : ∃ b, b = Wd.heap.size := ⟨_, rfl⟩
  rw [← hbs] at hpl hrl2 hwb
  have HBS := khide hbs
  clear hbs
  (refine wpAnyH_take (i := 0) (v := ?_) rfl (by decide +kernel) (by decide +kernel) (by decide +kernel) (fun _ _ _ h => h) (Or.inl ⟨by rfl, ?_⟩) (by assumption) ?_; rotate_left; (focus ((intro w hSw; (try dsimp only at hSw); go_simp); (try (with_reducible rfl)); done)); (try simp only [List.getElem_toArray, List.getElem_cons_zero, List.getElem_cons_succ, Act.put, List.setIfInBounds_toArray, List.set_cons_zero, List.set_cons_succ]))
  (refine wpAnyH_take (i := 1) (v := ?_) rfl (by decide +kernel) (by decide +kernel) (by decide +kernel) (fun _ _ _ h => h) (Or.inl ⟨by rfl, ?_⟩) (by assumption) ?_; rotate_left; (focus ((intro w hSw; (try dsimp only at hSw); go_simp); (try (with_reducible rfl)); done)); (try simp only [List.getElem_toArray, List.getElem_cons_zero, List.getElem_cons_succ, Act.put, List.setIfInBounds_toArray, List.set_cons_zero, List.set_cons_succ]))
  (refine wpAnyH_take (i := 2) (v := ?_) rfl (by decide +kernel) (by decide +kernel) (by decide +kernel) (fun _ _ _ h => h) (Or.inl ⟨by rfl, ?_⟩) (by assumption) ?_; rotate_left; (focus ((intro w hSw; (try dsimp only at hSw); go_simp); (try (with_reducible rfl)); done)); (try simp only [List.getElem_toArray, List.getElem_cons_zero, List.getElem_cons_succ, Act.put, List.setIfInBounds_toArray, List.set_cons_zero, List.set_cons_succ]))
  (refine wpAnyH_take (i := 3) (v := ?_) rfl (by decide +kernel) (by decide +kernel) (by decide +kernel) (fun _ _ _ h => h) (Or.inl ⟨by rfl, ?_⟩) (by assumption) ?_; rotate_left; (focus ((intro w hSw; (try dsimp only at hSw); go_simp); (try (with_reducible rfl)); done)); (try simp only [List.getElem_toArray, List.getElem_cons_zero, List.getElem_cons_succ, Act.put, List.setIfInBounds_toArray, List.set_cons_zero, List.set_cons_succ]))
  (refine wpAnyH_ready (rs := [4]) (by decide +kernel) (by simp) ?_; refine AllReadyH.cons rfl (fun K hK => ?_) AllReadyH.nil; go_simp; (go_at_call 69; (with_reducible refine (CA1.out _ _ _ _ HB HS0 rfl hcp).mono ?_); rintro e w4 ⟨A1, k1, rfl, hA1, HO, hb⟩; replace HO : Hid (w4.ownsRow bs 125 3 (.slice A1 r.length k1) r.length (cellsA r)) := (by have h9 := HO; rw [← HBS.out] at h9; exact h9); replace HK := HK.up hb.hid; replace HR := HR.up hb.hid; replace HP := HP.up hb.hid; replace HB := HB.up hb.hid; replace HS1 := HS1.up hb.hid; replace hcell : w4.cell? ad = some (.slice D0 a.length c0) := (hb.cell hadl).trans hcell; replace hcell1 : w4.cell? ⟨ad.block, ad.off + 1, none⟩ = some (.slice D1 d'.length c1) := (hb.cell (p := ⟨ad.block, ad.off + 1, none⟩) hadl).trans hcell1; have KS : Hid (∀ v : Value, (w4.setCell ⟨pp, 0, none⟩ v).cell? ⟨w.heap.size, 0, none⟩ = some (.slice A n c) ∧ (w4.setCell ⟨pp, 0, none⟩ v).cell? ⟨w.heap.size, 1, none⟩ = some (.slice B m d) ∧ (w4.setCell ⟨pp, 0, none⟩ v).cell? ad = some (.slice D0 a.length c0)) := fun v => ⟨(World.cell?_setCell_far _ _ _ _ hkp).trans HK.c0, (World.cell?_setCell_far _ _ _ _ hkp).trans HK.c1, (World.cell?_setCell_far _ _ _ _ hap).trans hcell⟩; clear hp_f0; have hp_f0 := HP.f0; have hp_0 := HP.c0); (try (go_wp2_with fail)); refine hK.out _ _ ?_ (fun hHeld => ?_); (focus ((try dsimp only); (first | (with_reducible exact ⟨HK.c0, HK.c1, hcell⟩) | exact KS.out _))); clear hK K; (try simp only [List.getElem_toArray, List.getElem_cons_zero, List.getElem_cons_succ, Act.put, List.setIfInBounds_toArray, List.set_cons_zero, List.set_cons_succ]))
  (refine wpAnyH_take (i := 5) (v := ?_) rfl (by decide +kernel) (by decide +kernel) (by decide +kernel) (fun _ _ _ h => h) (Or.inl ⟨by rfl, ?_⟩) (by assumption) ?_; rotate_left; (focus ((intro w hSw; (try dsimp only at hSw); go_simp); (try (with_reducible rfl)); done)); (try simp only [List.getElem_toArray, List.getElem_cons_zero, List.getElem_cons_succ, Act.put, List.setIfInBounds_toArray, List.set_cons_zero, List.set_cons_succ]))
  (refine wpAnyH_take (i := 6) (v := ?_) rfl (by decide +kernel) (by decide +kernel) (by decide +kernel) (fun _ _ _ h => h) (Or.inl ⟨by rfl, ?_⟩) (by assumption) ?_; rotate_left; (focus ((intro w hSw; (try dsimp only at hSw); go_simp); (try (with_reducible rfl)); done)); (try simp only [List.getElem_toArray, List.getElem_cons_zero, List.getElem_cons_succ, Act.put, List.setIfInBounds_toArray, List.set_cons_zero, List.set_cons_succ]))
  (refine wpAnyH_take (i := 7) (v := ?_) rfl (by decide +kernel) (by decide +kernel) (by decide +kernel) (fun _ _ _ h => h) (Or.inl ⟨by rfl, ?_⟩) (by assumption) ?_; rotate_left; (focus ((intro w hSw; (try dsimp only at hSw); go_simp); (try (with_reducible rfl)); done)); (try simp only [List.getElem_toArray, List.getElem_cons_zero, List.getElem_cons_succ, Act.put, List.setIfInBounds_toArray, List.set_cons_zero, List.set_cons_succ]))
  (refine wpAnyH_take (i := 8) (v := ?_) rfl (by decide +kernel) (by decide +kernel) (by decide +kernel) (fun _ _ _ h => h) (Or.inl ⟨by rfl, ?_⟩) (by assumption) ?_; rotate_left; (focus ((intro w hSw; (try dsimp only at hSw); go_simp); (try (with_reducible rfl)); done)); (try simp only [List.getElem_toArray, List.getElem_cons_zero, List.getElem_cons_succ, Act.put, List.setIfInBounds_toArray, List.set_cons_zero, List.set_cons_succ]))
  (refine wpAnyH_ready (rs := [9]) (by decide +kernel) (by simp) ?_; refine AllReadyH.cons rfl (fun K hK => ?_) AllReadyH.nil; go_simp; refine hK.out _ _ ?_ (fun hHeld => ?_); (focus ((try dsimp only); (first | (with_reducible exact ⟨HK.c0, HK.c1, hcell⟩) | exact KS.out _))); clear hK K; (try simp only [List.getElem_toArray, List.getElem_cons_zero, List.getElem_cons_succ, Act.put, List.setIfInBounds_toArray, List.set_cons_zero, List.set_cons_succ]))
  (refine wpAnyH_take (i := 10) (v := ?_) rfl (by decide +kernel) (by decide +kernel) (by decide +kernel) (fun _ _ _ h => h) (Or.inl ⟨by rfl, ?_⟩) (by assumption) ?_; rotate_left; (focus ((intro w hSw; (try dsimp only at hSw); go_simp); (try (with_reducible rfl)); done)); (try simp only [List.getElem_toArray, List.getElem_cons_zero, List.getElem_cons_succ, Act.put, List.setIfInBounds_toArray, List.set_cons_zero, List.set_cons_succ]))
  refine wpAnyH_done (by decide +kernel) ?_ _
  go_upto_region 9 with fail
  refine kwp_named ?_
  intro W5 hW5
  have HOLD := HP.c0
  replace HP : At W5 pp [.slice A1 r.length k1, .slice none 0 0, .string ⟨#[49]⟩] := by rw [hW5]; exact HP.put (i := 0) (by simp) _
  replace HR : At W5 (w.heap.size + 1) [.slice none 0 0, .slice none 0 0, .string ⟨#[]⟩] := by rw [hW5]; exact HR.far hrp _
  replace HK : At W5 w.heap.size [.slice A n c, .slice B m d] := by rw [hW5]; exact HK.far hkp _
  replace HB : Bel w W5 := by rw [hW5]; exact Below.setCell HB hpw _
  replace hcell1 : W5.cell? ⟨ad.block, ad.off + 1, none⟩ = some (.slice D1 d'.length c1) := by rw [hW5]; exact (World.cell?_setCell_far _ _ (⟨ad.block, ad.off + 1, none⟩ : Addr) _ hap).trans hcell1
  replace HS1 : Ss W5 D1 d' := by rw [hW5]; exact ss_put HS1 HOLD _
  replace HO : Hid (W5.ownsRow bs 125 3 (.slice A1 r.length k1) r.length (cellsA r)) := by rw [hW5]; exact ownsRow_setCell_below HO.out hpl _
  clear hW5 HOLD hp_f0 hp_0 KS hcell hadl hb HS0
  obtain ⟨x, dl, rfl⟩ : ∃ x dl, d' = x :: dl := by
    cases d' with
    | nil => exact absurd rfl hne
    | cons x dl => exact ⟨x, dl, rfl⟩
  obtain ⟨adx, rfl, hxb, hxc⟩ := HS1.out (by simp)
  have hx0 : W5.cell? adx = some (.string x) := by have h9 := hxc 0 x rfl; rwa [addr_zero] at h9
  have hpx : pp ≠ adx.block := HD1.out adx rfl (by simp)
  obtain ⟨bn, hbn⟩ : ∃ b, numW x.data.toList = b := ⟨_, rfl⟩
  have CN : Hid (∀ W : World, Calls Tryz.prog 70 #[.string x] W fun e w' => e = .returned (.bool bn) ∧ W = w') := fun W => hbn ▸ rnumber_any (hau x (by simp)) W
  have HBN := khide hbn
  have HZ : Hid ((x :: dl).length = dl.length + 1) := rfl
  obtain ⟨z, hz⟩ : ∃ z, (x :: dl).length = z := ⟨_, rfl⟩
  have z0 : 0 < z := by rw [← hz]; simp
  have z1 : (0 : Int) < (z : Int) := by omega
  have z2 : 1 ≤ z := z0
  have z5 : (1 : Int) ≤ (z : Int) := by omega
  have z3 : decide ((0 : Int) < (z : Int)) = true := decide_eq_true z1
  have z4 : ((z : Int) == 0) = false := by rw [beq_eq_false_iff_ne]; omega
  rw [hz] at hcell1 hcp1 HZ
  have HZZ := khide hz
  clear hbn hxc hz hau HD1 hne
  obtain ⟨y, hy⟩ : ∃ y, (x.toList != [49]) = y := ⟨_, rfl⟩
  obtain ⟨kb, hkb⟩ : ∃ k, (bn && y) = k := ⟨_, rfl⟩
  have HE : Hid (headD (x :: dl) = if kb = true then (x, dl) else (oneB, x :: dl)) := hkb ▸ headD_kb HBN.out hy
  clear HBN
  go_upto_region 10 with fail
  go_cut [61] from 47 to 61 (fun v w' => v = .bool kb ∧ w' = W5)
  case first =>
    have HSy : (x.toList == [49]) = !y := by rw [← hy, bne, Bool.not_not]
    cases bn <;> cases y
    all_goals (
      simp only [Bool.not_true, Bool.not_false] at HSy
      go_wp2_with (first | (go_at_call 70; (with_reducible refine (CN.out _).mono ?_); rintro e w6 ⟨rfl, rfl⟩) | fail)
      go_meet
      case rel => rw [← hkb]; exact ⟨by first | rfl | simp, rfl⟩)
  case rest =>
  obtain ⟨rfl, rfl⟩ := hcut
  clear hkb CN hy
  go_upto_if 61 with fail
  go_cut [9] from 62 to 71 (fun dv w' => ∃ D2 j2 g2, dv = .slice D2 j2 g2 ∧ j2 = (headD (x :: dl)).2.length ∧ j2 ≤ g2 ∧ Ss w' D2 (headD (x :: dl)).2 ∧ At w' pp [.slice A1 r.length k1, .slice none 0 0, .string (headD (x :: dl)).1] ∧ At w' w.heap.size [.slice A n c, .slice B m d] ∧ At w' (w.heap.size + 1) [.slice none 0 0, .slice none 0 0, .string ⟨#[]⟩] ∧ Bel w w' ∧ Hid (w'.ownsRow bs 125 3 (.slice A1 r.length k1) r.length (cellsA r)))
  case first =>
    cases kb with
    | false =>
      have E9 : Hid (headD (x :: dl) = (oneB, x :: dl)) := HE.out.trans (if_neg (by simp))
      clear HE
      go_wp2_with fail
      go_meet
      case rel => rw [E9.out]; exact ⟨some adx, z, c1, rfl, HZZ.out.symm, hcp1, HS1, HP, HK, HR, HB, HO⟩
    | true =>
      have E9 : Hid (headD (x :: dl) = (x, dl)) := HE.out.trans (if_pos rfl)
      clear HE
      go_upto_region 11 with fail
      replace HP := HP.dr; replace HB := HB.dr; replace HS1 := HS1.dr; replace HK := HK.dr; replace HR := HR.dr
      have KX : Hid (∀ v : Value, (wc.drew.setCell ⟨pp, 2, none⟩ v).cell? adx = some (.string x)) := fun v => (World.cell?_setCell_far _ _ _ _ hpx).trans hx0
      have hp_f2 := HP.f2; have hp_2 := HP.c2; have hp_l := HP.lt
      obtain ⟨D9, hD9⟩ : ∃ D9, (if c1 = 1 then some adx else some (⟨adx.block, adx.off + 1, none⟩ : Addr)) = D9 := ⟨_, rfl⟩
      refine wp_region_held_drew (S := fun w' => w'.cell? adx = some (.string x)) (by kernel_rfl) ?_ (fun hHeld => ?_)
      · exact hx0
      (refine wpAnyH_take (i := 0) (v := ?_) rfl (by decide +kernel) (by decide +kernel) (by decide +kernel) (fun _ _ _ h => h) (Or.inl ⟨by rfl, ?_⟩) (by assumption) ?_; rotate_left; (focus ((intro w hSw; (try dsimp only at hSw); go_simp); (try (with_reducible rfl)); done)); (try simp only [List.getElem_toArray, List.getElem_cons_zero, List.getElem_cons_succ, Act.put, List.setIfInBounds_toArray, List.set_cons_zero, List.set_cons_succ]))
      (refine wpAnyH_take (i := 1) (v := ?_) rfl (by decide +kernel) (by decide +kernel) (by decide +kernel) (fun _ _ _ h => h) (Or.inl ⟨by rfl, ?_⟩) (by assumption) ?_; rotate_left; (focus ((intro w hSw; (try dsimp only at hSw); go_simp); (try (with_reducible rfl)); done)); (try simp only [List.getElem_toArray, List.getElem_cons_zero, List.getElem_cons_succ, Act.put, List.setIfInBounds_toArray, List.set_cons_zero, List.set_cons_succ]))
      (refine wpAnyH_take (i := 2) (v := ?_) rfl (by decide +kernel) (by decide +kernel) (by decide +kernel) (fun _ _ _ h => h) (Or.inl ⟨by rfl, ?_⟩) (by assumption) ?_; rotate_left; (focus ((intro w hSw; (try dsimp only at hSw); go_simp); (try (with_reducible rfl)); done)); (try simp only [List.getElem_toArray, List.getElem_cons_zero, List.getElem_cons_succ, Act.put, List.setIfInBounds_toArray, List.set_cons_zero, List.set_cons_succ]))
      (refine wpAnyH_take (i := 3) (v := ?_) rfl (by decide +kernel) (by decide +kernel) (by decide +kernel) (fun _ _ _ h => h) (Or.inl ⟨by rfl, ?_⟩) (by assumption) ?_; rotate_left; (focus ((intro w hSw; (try dsimp only at hSw); go_simp); (try (with_reducible rfl)); done)); (try simp only [List.getElem_toArray, List.getElem_cons_zero, List.getElem_cons_succ, Act.put, List.setIfInBounds_toArray, List.set_cons_zero, List.set_cons_succ]))
      (refine wpAnyH_take (i := 4) (v := ?_) rfl (by decide +kernel) (by decide +kernel) (by decide +kernel) (fun _ _ _ h => h) (Or.inl ⟨by rfl, ?_⟩) (by assumption) ?_; rotate_left; (focus ((intro w hSw; (try dsimp only at hSw); go_simp); (try (with_reducible rfl)); done)); (try simp only [List.getElem_toArray, List.getElem_cons_zero, List.getElem_cons_succ, Act.put, List.setIfInBounds_toArray, List.set_cons_zero, List.set_cons_succ]))
      (refine wpAnyH_take (i := 5) (v := ?_) rfl (by decide +kernel) (by decide +kernel) (by decide +kernel) (fun _ _ _ h => h) (Or.inl ⟨by rfl, ?_⟩) (by assumption) ?_; rotate_left; (focus ((intro w hSw; (try dsimp only at hSw); go_simp); (try (with_reducible rfl)); done)); (try simp only [List.getElem_toArray, List.getElem_cons_zero, List.getElem_cons_succ, Act.put, List.setIfInBounds_toArray, List.set_cons_zero, List.set_cons_succ]))
      (refine wpAnyH_ready (rs := [6]) (by decide +kernel) (by simp) ?_; refine AllReadyH.cons rfl (fun K hK => ?_) AllReadyH.nil; go_simp; refine hK.out _ _ ?_ (fun hHeld => ?_); (focus ((try dsimp only); (first | exact hx0 | exact KX.out _))); clear hK K; (try simp only [List.getElem_toArray, List.getElem_cons_zero, List.getElem_cons_succ, Act.put, List.setIfInBounds_toArray, List.set_cons_zero, List.set_cons_succ]))
      (refine wpAnyH_take (i := 7) (v := ?_) rfl (by decide +kernel) (by decide +kernel) (by decide +kernel) (fun _ _ _ h => h) (Or.inl ⟨by rfl, ?_⟩) (by assumption) ?_; rotate_left; (focus ((intro w hSw; (try dsimp only at hSw); go_simp); (try (with_reducible rfl)); done)); (try simp only [List.getElem_toArray, List.getElem_cons_zero, List.getElem_cons_succ, Act.put, List.setIfInBounds_toArray, List.set_cons_zero, List.set_cons_succ]))
      refine wpAnyH_done (by decide +kernel) ?_ _
      go_wp2_with fail
      go_meet
      case rel =>
        rw [E9.out]
        refine ⟨D9, z - 1, c1 - 1, rfl, ?_, ?_, ?_, HP.put (i := 2) (by simp) _, HK.far hkp _, HR.far hrp _, Below.setCell HB hpw _, khide (ownsRow_setCell_below HO.out hpl _)⟩
        · show z - 1 = dl.length; have h9 := HZ.out; omega
        · omega
        · have h9 := HS1.sub (t := 1) (g := c1) (by rw [HZZ.out]; exact hcp1)
          have h8 : Ss wc.drew (if c1 = 1 then some adx else some ⟨adx.block, adx.off + 1, none⟩) dl := by rw [add_one']; exact h9
          have h7 := ss_put2 h8 HP.c2 (fun ad0 e0 => by
            by_cases h1 : c1 = 1
            · rw [if_pos h1] at e0; injection e0 with e0; rw [← e0]; exact hpx
            · rw [if_neg h1] at e0; injection e0 with e0; rw [← e0]; exact hpx) (.string x)
          rw [hD9] at h7
          exact h7
  case rest =>
    obtain ⟨D2, j2, g2, rfl, hj2, hjg2, HS2, HP, HK, HR, HB, HO⟩ := hcut
    replace hj2 := khide hj2
    replace hjg2 := khide hjg2
    obtain ⟨tt, htt⟩ : ∃ t, (headD (x :: dl)).1 = t := ⟨_, rfl⟩
    rw [htt] at HP
    have HTT := khide htt
    clear htt HS1 hx0 hpx hcell1 hap
    have hk_0 := HK.c0; have hk_1 := HK.c1; have hk_l := HK.lt; have hp_f1 := HP.f1; have hp_1 := HP.c1; have hp_l := HP.lt
    obtain ⟨b2, hb2⟩ : ∃ b, b = wc.heap.size := ⟨_, rfl⟩
    have hpb : pp < b2 := by rw [hb2]; exact HP.lt
    have hrb : w.heap.size + 1 < b2 := by rw [hb2]; exact HR.lt
    have hwb2 : w.heap.size ≤ b2 := by rw [hb2]; exact HB.size
    have HB2 := khide hb2
    clear hb2
    go_upto_region 16 with (first | (go_at_call 69; (with_reducible refine (CA2.out _ _ _ _ HB HS2 hj2.out hjg2.out).mono ?_); rintro e w7 ⟨A2, k2, rfl, hA2, HO2, hb⟩; clear hk_0 hk_1 hk_l hp_f1 hp_1 hp_l; replace HK := HK.up hb.hid; replace HP := HP.up hb.hid; replace HR := HR.up hb.hid; replace HB := HB.up hb.hid; replace HO := khide (own_up HO.out hb.hid); replace HO2 : Hid (w7.ownsRow b2 125 3 (.slice A2 s.length k2) s.length (cellsA s)) := (by have h9 := HO2; rw [← HB2.out] at h9; exact h9); have hk_0 := HK.c0; have hk_1 := HK.c1; have hk_l := HK.lt; have hp_f1 := HP.f1; have hp_1 := HP.c1; have hp_l := HP.lt) | fail)
    refine kwp_named ?_
    intro W8 hW8
    replace HP : At W8 pp [.slice A1 r.length k1, .slice A2 s.length k2, .string tt] := by rw [hW8]; exact HP.put (i := 1) (by simp) _
    replace HR : At W8 (w.heap.size + 1) [.slice none 0 0, .slice none 0 0, .string ⟨#[]⟩] := by rw [hW8]; exact HR.far hrp _
    replace HB : Bel w W8 := by rw [hW8]; exact Below.setCell HB hpw _
    replace HO : Hid (W8.ownsRow bs 125 3 (.slice A1 r.length k1) r.length (cellsA r)) := by rw [hW8]; exact ownsRow_setCell_below HO.out hpl _
    replace HO2 : Hid (W8.ownsRow b2 125 3 (.slice A2 s.length k2) s.length (cellsA s)) := by rw [hW8]; exact ownsRow_setCell_below HO2.out hpb _
    clear hW8 hk_0 hk_1 hk_l hp_f1 hp_1 hp_l hb HK HS2
    replace HR := HR.dr; replace HP := HP.dr; replace HB := HB.dr; replace HO : Hid (W8.drew.ownsRow bs 125 3 (.slice A1 r.length k1) r.length (cellsA r)) := HO; replace HO2 : Hid (W8.drew.ownsRow b2 125 3 (.slice A2 s.length k2) s.length (cellsA s)) := HO2
    refine wp_region_held_drew (S := fun w' => w'.cell? ⟨pp, 0, none⟩ = some (.slice A1 r.length k1) ∧ w'.cell? ⟨pp, 1, none⟩ = some (.slice A2 s.length k2) ∧ w'.cell? ⟨pp, 2, none⟩ = some (.string tt)) (by kernel_rfl) ?_ (fun hHeld => ?_)
    · exact ⟨HP.c0, HP.c1, HP.c2⟩
    have hr_f0 := HR.f0; have hr_f1 := HR.f1; have hr_f2 := HR.f2; have hr_0 := HR.c0; have hr_1 := HR.c1; have hr_2 := HR.c2; have hr_l := HR.lt
    have hrq : w.heap.size + 1 ≠ pp := fun e => hrp e.symm
    generalize W8.drew = Wd at *
    have KS : Hid (∀ x y z : Value, (((Wd.setCell ⟨w.heap.size + 1, 0, none⟩ x).setCell ⟨w.heap.size + 1, 1, none⟩ y).setCell ⟨w.heap.size + 1, 2, none⟩ z).cell? ⟨pp, 0, none⟩ = some (.slice A1 r.length k1) ∧ (((Wd.setCell ⟨w.heap.size + 1, 0, none⟩ x).setCell ⟨w.heap.size + 1, 1, none⟩ y).setCell ⟨w.heap.size + 1, 2, none⟩ z).cell? ⟨pp, 1, none⟩ = some (.slice A2 s.length k2) ∧ (((Wd.setCell ⟨w.heap.size + 1, 0, none⟩ x).setCell ⟨w.heap.size + 1, 1, none⟩ y).setCell ⟨w.heap.size + 1, 2, none⟩ z).cell? ⟨pp, 2, none⟩ = some (.string tt)) := fun x y z => by
      have h5 := ((HP.far hrq (i := 0) x).far hrq (i := 1) y).far hrq (i := 2) z
      exact ⟨h5.c0, h5.c1, h5.c2⟩
    (refine wpAnyH_take (i := 0) (v := ?_) rfl (by decide +kernel) (by decide +kernel) (by decide +kernel) (fun _ _ _ h => h) (Or.inl ⟨by rfl, ?_⟩) (by assumption) ?_; rotate_left; (focus ((intro w hSw; (try dsimp only at hSw); go_simp); (try (with_reducible rfl)); done)); (try simp only [List.getElem_toArray, List.getElem_cons_zero, List.getElem_cons_succ, Act.put, List.setIfInBounds_toArray, List.set_cons_zero, List.set_cons_succ]))
    (refine wpAnyH_take (i := 1) (v := ?_) rfl (by decide +kernel) (by decide +kernel) (by decide +kernel) (fun _ _ _ h => h) (Or.inl ⟨by rfl, ?_⟩) (by assumption) ?_; rotate_left; (focus ((intro w hSw; (try dsimp only at hSw); go_simp); (try (with_reducible rfl)); done)); (try simp only [List.getElem_toArray, List.getElem_cons_zero, List.getElem_cons_succ, Act.put, List.setIfInBounds_toArray, List.set_cons_zero, List.set_cons_succ]))
    (refine wpAnyH_take (i := 2) (v := ?_) rfl (by decide +kernel) (by decide +kernel) (by decide +kernel) (fun _ _ _ h => h) (Or.inl ⟨by rfl, ?_⟩) (by assumption) ?_; rotate_left; (focus ((intro w hSw; (try dsimp only at hSw); go_simp); (try (with_reducible rfl)); done)); (try simp only [List.getElem_toArray, List.getElem_cons_zero, List.getElem_cons_succ, Act.put, List.setIfInBounds_toArray, List.set_cons_zero, List.set_cons_succ]))
    (refine wpAnyH_take (i := 3) (v := ?_) rfl (by decide +kernel) (by decide +kernel) (by decide +kernel) (fun _ _ _ h => h) (Or.inl ⟨by rfl, ?_⟩) (by assumption) ?_; rotate_left; (focus ((intro w hSw; (try dsimp only at hSw); go_simp); (try (with_reducible rfl)); done)); (try simp only [List.getElem_toArray, List.getElem_cons_zero, List.getElem_cons_succ, Act.put, List.setIfInBounds_toArray, List.set_cons_zero, List.set_cons_succ]))
    (refine wpAnyH_take (i := 4) (v := ?_) rfl (by decide +kernel) (by decide +kernel) (by decide +kernel) (fun _ _ _ h => h) (Or.inl ⟨by rfl, ?_⟩) (by assumption) ?_; rotate_left; (focus ((intro w hSw; (try dsimp only at hSw); go_simp); (try (with_reducible rfl)); done)); (try simp only [List.getElem_toArray, List.getElem_cons_zero, List.getElem_cons_succ, Act.put, List.setIfInBounds_toArray, List.set_cons_zero, List.set_cons_succ]))
    (refine wpAnyH_take (i := 5) (v := ?_) rfl (by decide +kernel) (by decide +kernel) (by decide +kernel) (fun _ _ _ h => h) (Or.inl ⟨by rfl, ?_⟩) (by assumption) ?_; rotate_left; (focus ((intro w hSw; (try dsimp only at hSw); go_simp); (try (with_reducible rfl)); done)); (try simp only [List.getElem_toArray, List.getElem_cons_zero, List.getElem_cons_succ, Act.put, List.setIfInBounds_toArray, List.set_cons_zero, List.set_cons_succ]))
    (refine wpAnyH_take (i := 6) (v := ?_) rfl (by decide +kernel) (by decide +kernel) (by decide +kernel) (fun _ _ _ h => h) (Or.inl ⟨by rfl, ?_⟩) (by assumption) ?_; rotate_left; (focus ((intro w hSw; (try dsimp only at hSw); go_simp); (try (with_reducible rfl)); done)); (try simp only [List.getElem_toArray, List.getElem_cons_zero, List.getElem_cons_succ, Act.put, List.setIfInBounds_toArray, List.set_cons_zero, List.set_cons_succ]))
    (refine wpAnyH_take (i := 7) (v := ?_) rfl (by decide +kernel) (by decide +kernel) (by decide +kernel) (fun _ _ _ h => h) (Or.inl ⟨by rfl, ?_⟩) (by assumption) ?_; rotate_left; (focus ((intro w hSw; (try dsimp only at hSw); go_simp); (try (with_reducible rfl)); done)); (try simp only [List.getElem_toArray, List.getElem_cons_zero, List.getElem_cons_succ, Act.put, List.setIfInBounds_toArray, List.set_cons_zero, List.set_cons_succ]))
    (refine wpAnyH_take (i := 8) (v := ?_) rfl (by decide +kernel) (by decide +kernel) (by decide +kernel) (fun _ _ _ h => h) (Or.inl ⟨by rfl, ?_⟩) (by assumption) ?_; rotate_left; (focus ((intro w hSw; (try dsimp only at hSw); go_simp); (try (with_reducible rfl)); done)); (try simp only [List.getElem_toArray, List.getElem_cons_zero, List.getElem_cons_succ, Act.put, List.setIfInBounds_toArray, List.set_cons_zero, List.set_cons_succ]))
    (refine wpAnyH_take (i := 9) (v := ?_) rfl (by decide +kernel) (by decide +kernel) (by decide +kernel) (fun _ _ _ h => h) (Or.inl ⟨by rfl, ?_⟩) (by assumption) ?_; rotate_left; (focus ((intro w hSw; (try dsimp only at hSw); go_simp); (try (with_reducible rfl)); done)); (try simp only [List.getElem_toArray, List.getElem_cons_zero, List.getElem_cons_succ, Act.put, List.setIfInBounds_toArray, List.set_cons_zero, List.set_cons_succ]))
    (refine wpAnyH_take (i := 10) (v := ?_) rfl (by decide +kernel) (by decide +kernel) (by decide +kernel) (fun _ _ _ h => h) (Or.inl ⟨by rfl, ?_⟩) (by assumption) ?_; rotate_left; (focus ((intro w hSw; (try dsimp only at hSw); go_simp); (try (with_reducible rfl)); done)); (try simp only [List.getElem_toArray, List.getElem_cons_zero, List.getElem_cons_succ, Act.put, List.setIfInBounds_toArray, List.set_cons_zero, List.set_cons_succ]))
    (refine wpAnyH_take (i := 11) (v := ?_) rfl (by decide +kernel) (by decide +kernel) (by decide +kernel) (fun _ _ _ h => h) (Or.inl ⟨by rfl, ?_⟩) (by assumption) ?_; rotate_left; (focus ((intro w hSw; (try dsimp only at hSw); go_simp); (try (with_reducible rfl)); done)); (try simp only [List.getElem_toArray, List.getElem_cons_zero, List.getElem_cons_succ, Act.put, List.setIfInBounds_toArray, List.set_cons_zero, List.set_cons_succ]))
    (refine wpAnyH_take (i := 12) (v := ?_) rfl (by decide +kernel) (by decide +kernel) (by decide +kernel) (fun _ _ _ h => h) (Or.inl ⟨by rfl, ?_⟩) (by assumption) ?_; rotate_left; (focus ((intro w hSw; (try dsimp only at hSw); go_simp); (try (with_reducible rfl)); done)); (try simp only [List.getElem_toArray, List.getElem_cons_zero, List.getElem_cons_succ, Act.put, List.setIfInBounds_toArray, List.set_cons_zero, List.set_cons_succ]))
    (refine wpAnyH_take (i := 13) (v := ?_) rfl (by decide +kernel) (by decide +kernel) (by decide +kernel) (fun _ _ _ h => h) (Or.inl ⟨by rfl, ?_⟩) (by assumption) ?_; rotate_left; (focus ((intro w hSw; (try dsimp only at hSw); go_simp); (try (with_reducible rfl)); done)); (try simp only [List.getElem_toArray, List.getElem_cons_zero, List.getElem_cons_succ, Act.put, List.setIfInBounds_toArray, List.set_cons_zero, List.set_cons_succ]))
    (refine wpAnyH_take (i := 14) (v := ?_) rfl (by decide +kernel) (by decide +kernel) (by decide +kernel) (fun _ _ _ h => h) (Or.inl ⟨by rfl, ?_⟩) (by assumption) ?_; rotate_left; (focus ((intro w hSw; (try dsimp only at hSw); go_simp); (try (with_reducible rfl)); done)); (try simp only [List.getElem_toArray, List.getElem_cons_zero, List.getElem_cons_succ, Act.put, List.setIfInBounds_toArray, List.set_cons_zero, List.set_cons_succ]))
    (refine wpAnyH_ready (rs := [15]) (by decide +kernel) (by simp) ?_; refine AllReadyH.cons rfl (fun K hK => ?_) AllReadyH.nil; go_simp; refine hK.out _ _ ?_ (fun hHeld => ?_); (focus ((try dsimp only); (first | (with_reducible exact ⟨HP.c0, HP.c1, HP.c2⟩) | exact KS.out _ _ _))); clear hK K; (try simp only [List.getElem_toArray, List.getElem_cons_zero, List.getElem_cons_succ, Act.put, List.setIfInBounds_toArray, List.set_cons_zero, List.set_cons_succ]))
    (refine wpAnyH_take (i := 16) (v := ?_) rfl (by decide +kernel) (by decide +kernel) (by decide +kernel) (fun _ _ _ h => h) (Or.inl ⟨by rfl, ?_⟩) (by assumption) ?_; rotate_left; (focus ((intro w hSw; (try dsimp only at hSw); go_simp); (try (with_reducible rfl)); done)); (try simp only [List.getElem_toArray, List.getElem_cons_zero, List.getElem_cons_succ, Act.put, List.setIfInBounds_toArray, List.set_cons_zero, List.set_cons_succ]))
    refine wpAnyH_done (by decide +kernel) ?_ _
    go_wp2_with fail
    have hs : w.heap.size ≤ w.heap.size + 1 := Nat.le_succ _
    rw [HTT.out]
    refine bodyPost_ret (v := .tuple #[.agg #[.slice A1 r.length k1, .slice A2 s.length k2, .string tt], .bool true]) (by simp [results, Tryz.results43, go_sem, hr_0, hr_1, hr_2, hr_l]) rfl ⟨A1, k1, A2, k2, rfl, own_base (ownsRow_setCell_below (ownsRow_setCell_below (ownsRow_setCell_below HO.out hrl2 _) hrl2 _) hrl2 _) hwb, own_base (ownsRow_setCell_below (ownsRow_setCell_below (ownsRow_setCell_below HO2.out hrb _) hrb _) hrb _) hwb2, kbelow3 HB hs _ _ _⟩
end
end Go.Proofs.YthdpojkeceoiiaaGreatDoor
