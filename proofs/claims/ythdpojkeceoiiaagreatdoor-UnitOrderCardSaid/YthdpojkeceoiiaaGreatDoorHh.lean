/- The document's own part: a row without 'per'. Conditions: texts and lists that fit. -/
import Derived.Test.YthdpojkeceoiiaaGreatDoorGOkc20
import Derived.Deep.RegionHeld
open Go.RowKit
set_option maxRecDepth 100000
namespace Go.Proofs.YthdpojkeceoiiaaGreatDoor
theorem partC_one {names ps a : List ByteArray} : partC names ps [a] = (atomsL names ps a).bind fun r => if 0 < r.length ∧ r.length ≤ 8 then some (r, [], oneB) else none := rfl
section
variable {A B D : Option Addr} {n c m d j g : Nat} {names ps l a : List ByteArray} {w : World}
set_option maxHeartbeats 8000000 in
theorem part_one_no (h : Ss w A names) (hn : n = names.length) (hl : n ≤ 1000000) (h' : Ss w B ps) (hm : m = ps.length) (hl' : m ≤ 1000000) (h2 : Ss w D l) (hj : j = l.length) (hjl : j ≤ 1000000) (hc : cutBy perB l = [a]) (hal : a.length ≤ 1000000) (hau : ∀ x ∈ a, x.size ≤ 2000000) (hps : ∀ x ∈ ps, x.size ≤ 2000000) (hres : atomsL names ps a = none) :
    Calls Tryz.prog 43 #[.agg #[.slice A n c, .slice B m d], .slice D j g] w (PartR w (partD names ps l)) := by
  obtain ⟨W1, hW1⟩ : ∃ X, X = (w.alloc (.cells #[.slice A n c, .slice B m d] 48)).alloc (.cells #[.slice none 0 0, .slice none 0 0, .string ⟨#[]⟩] 86) := ⟨_, rfl⟩
  have HK : At W1 w.heap.size [.slice A n c, .slice B m d] := by rw [hW1]; exact (at_new0 _ _ _).al _
  have HR : At W1 (w.heap.size + 1) [.slice none 0 0, .slice none 0 0, .string ⟨#[]⟩] := by rw [hW1]; exact at_new1 _ _ _ _
  have HB : Bel w W1 := by rw [hW1]; exact ((Bel.refl w).al _).al _
  have HB0 : Hid (Below w.heap.size w W1) := HB
  have CC : Hid (Calls Tryz.prog 42 #[.slice D j g, .string ⟨#[112, 101, 114]⟩] W1 (ListsC W1 [a])) := hc ▸ rcut_any (t := perB) (h2.up HB0) hj hjl
  have CA : Hid (∀ (W' : World) (D0 : Option Addr) (c0 : Nat), Bel w W' → Ss W' D0 a → a.length ≤ c0 → Calls Tryz.prog 69 #[.agg #[.slice A n c, .slice B m d], .slice D0 a.length c0] W' (AtomsR W' (none))) := fun W' D0 c0 hb hs hg =>
    ratoms_any (h.up hb.hid) hn hl (h'.up hb.hid) hm hl' hs rfl hg hal hau hps hres
  have HV : partD names ps l = none := by unfold partD; rw [hc, partC_one, hres]; rfl
  have HW := khide hW1
  rw [HV]
  clear hW1 HV h2 hj hjl h h' hn hm hl hl' hc hal hau hps hres HB0
  go_enter Tryz.func43, Tryz.ntmps43
  go_upto_region 1 with fail
  rw [← HW.out]
  go_upto_region 6 with (first | (go_at_call 42; (with_reducible refine (CC.out).mono ?_); rintro e w2 ⟨ad, cc, rfl, hss, hcap, hb2⟩; replace HK := HK.up hb2; replace HR := HR.up hb2; replace HB := HB.up hb2) | fail)
  obtain ⟨ad', D0, c0, e0, hab, hc0, hs0, -⟩ := hss.out.at_ (k := 0) (by simp)
  injection e0 with e0
  subst e0
  have hcp : a.length ≤ c0 := hcap 0 _ _ _ (by simp) hc0
  rw [addr_zero] at hc0
  replace hc0 : w2.cell? ad = some (.slice D0 a.length c0) := hc0
  have HS0 : Ss w2 D0 a := hs0
  have hkl := HK.lt
  have hrl := HR.lt
  refine kwp_named ?_
  intro W3 hW3
  have HP : At W3 w2.heap.size [.slice none 0 0, .slice none 0 0, .string ⟨#[49]⟩] := by rw [hW3]; exact at_new0 _ _ _
  have HBC : Hid (Bel w2 W3) := by rw [hW3]; exact (Bel.refl w2).al _
  have hcell : W3.cell? ad = some (.slice D0 a.length c0) := (HBC.out.cell hab).trans hc0
  replace HS0 : Ss W3 D0 a := HS0.up HBC.out
  replace HB : Bel w W3 := HB.up HBC.out
  replace HK := HK.up HBC.out
  replace HR := HR.up HBC.out
  have hadw : ad.block < W3.heap.size := Nat.lt_of_lt_of_le hab HBC.out.size
  have hpw : w.heap.size ≤ w2.heap.size := Nat.le_of_lt hkl
  have hap : ad.block ≠ w2.heap.size := Nat.ne_of_lt hab
  have hkp : w2.heap.size ≠ w.heap.size := Nat.ne_of_gt hkl
  have hrp : w2.heap.size ≠ w.heap.size + 1 := Nat.ne_of_gt hrl
  replace hap : w2.heap.size ≠ ad.block := fun e => hap e.symm
  obtain ⟨pp, hpp⟩ : ∃ p, p = w2.heap.size := ⟨_, rfl⟩
  rw [← hpp] at HP hap hkp hrp hpw
  rw [← hpp]
  clear hW3 hpp hss hcap hc0 hs0 hab CC HBC hkl hrl
  replace HK := HK.dr; replace HR := HR.dr; replace HP := HP.dr; replace HB := HB.dr; replace HS0 := HS0.dr
  refine wp_region_held_drew (S := fun w' => w'.cell? ⟨w.heap.size, 0, none⟩ = some (.slice A n c) ∧ w'.cell? ⟨w.heap.size, 1, none⟩ = some (.slice B m d) ∧ w'.cell? ad = some (.slice D0 a.length c0)) (by kernel_rfl) ?_ (fun hHeld => ?_)
  · exact ⟨HK.c0, HK.c1, hcell⟩
  have hadl : ad.block < W3.drew.heap.size := hadw
  replace hcell : W3.drew.cell? ad = some (.slice D0 a.length c0) := hcell
  have hp_f0 := HP.f0
  generalize W3.drew = Wd at *
  (refine wpAnyH_take (i := 0) (v := ?_) rfl (by decide +kernel) (by decide +kernel) (by decide +kernel) (fun _ _ _ h => h) (Or.inl ⟨by rfl, ?_⟩) (by assumption) ?_; rotate_left; (focus ((intro w hSw; (try dsimp only at hSw); go_simp); (try (with_reducible rfl)); done)); (try simp only [List.getElem_toArray, List.getElem_cons_zero, List.getElem_cons_succ, Act.put, List.setIfInBounds_toArray, List.set_cons_zero, List.set_cons_succ]))
  (refine wpAnyH_take (i := 1) (v := ?_) rfl (by decide +kernel) (by decide +kernel) (by decide +kernel) (fun _ _ _ h => h) (Or.inl ⟨by rfl, ?_⟩) (by assumption) ?_; rotate_left; (focus ((intro w hSw; (try dsimp only at hSw); go_simp); (try (with_reducible rfl)); done)); (try simp only [List.getElem_toArray, List.getElem_cons_zero, List.getElem_cons_succ, Act.put, List.setIfInBounds_toArray, List.set_cons_zero, List.set_cons_succ]))
  (refine wpAnyH_take (i := 2) (v := ?_) rfl (by decide +kernel) (by decide +kernel) (by decide +kernel) (fun _ _ _ h => h) (Or.inl ⟨by rfl, ?_⟩) (by assumption) ?_; rotate_left; (focus ((intro w hSw; (try dsimp only at hSw); go_simp); (try (with_reducible rfl)); done)); (try simp only [List.getElem_toArray, List.getElem_cons_zero, List.getElem_cons_succ, Act.put, List.setIfInBounds_toArray, List.set_cons_zero, List.set_cons_succ]))
  (refine wpAnyH_take (i := 3) (v := ?_) rfl (by decide +kernel) (by decide +kernel) (by decide +kernel) (fun _ _ _ h => h) (Or.inl ⟨by rfl, ?_⟩) (by assumption) ?_; rotate_left; (focus ((intro w hSw; (try dsimp only at hSw); go_simp); (try (with_reducible rfl)); done)); (try simp only [List.getElem_toArray, List.getElem_cons_zero, List.getElem_cons_succ, Act.put, List.setIfInBounds_toArray, List.set_cons_zero, List.set_cons_succ]))
  (refine wpAnyH_ready (rs := [4]) (by decide +kernel) (by simp) ?_; refine AllReadyH.cons rfl (fun K hK => ?_) AllReadyH.nil; go_simp; (go_at_call 69; (with_reducible refine (CA.out _ _ _ HB HS0 hcp).mono ?_); rintro e w4 ⟨rfl, hb⟩; replace HK := HK.up hb.hid; replace HR := HR.up hb.hid; replace HP := HP.up hb.hid; replace HB := HB.up hb.hid; replace hcell : w4.cell? ad = some (.slice D0 a.length c0) := (hb.cell hadl).trans hcell; have KS : Hid (∀ v : Value, (w4.setCell ⟨pp, 0, none⟩ v).cell? ⟨w.heap.size, 0, none⟩ = some (.slice A n c) ∧ (w4.setCell ⟨pp, 0, none⟩ v).cell? ⟨w.heap.size, 1, none⟩ = some (.slice B m d) ∧ (w4.setCell ⟨pp, 0, none⟩ v).cell? ad = some (.slice D0 a.length c0)) := fun v => ⟨(World.cell?_setCell_far _ _ _ _ hkp).trans HK.c0, (World.cell?_setCell_far _ _ _ _ hkp).trans HK.c1, (World.cell?_setCell_far _ _ _ _ hap).trans hcell⟩; clear hp_f0; have hp_f0 := HP.f0; have hp_0 := HP.c0); (try (go_wp2_with fail)); refine hK.out _ _ ?_ (fun hHeld => ?_); (focus ((try dsimp only); (first | (with_reducible exact ⟨HK.c0, HK.c1, hcell⟩) | exact KS.out _))); clear hK K; (try simp only [List.getElem_toArray, List.getElem_cons_zero, List.getElem_cons_succ, Act.put, List.setIfInBounds_toArray, List.set_cons_zero, List.set_cons_succ]))
  (refine wpAnyH_take (i := 5) (v := ?_) rfl (by decide +kernel) (by decide +kernel) (by decide +kernel) (fun _ _ _ h => h) (Or.inl ⟨by rfl, ?_⟩) (by assumption) ?_; rotate_left; (focus ((intro w hSw; (try dsimp only at hSw); go_simp); (try (with_reducible rfl)); done)); (try simp only [List.getElem_toArray, List.getElem_cons_zero, List.getElem_cons_succ, Act.put, List.setIfInBounds_toArray, List.set_cons_zero, List.set_cons_succ]))
  (refine wpAnyH_take (i := 6) (v := ?_) rfl (by decide +kernel) (by decide +kernel) (by decide +kernel) (fun _ _ _ h => h) (Or.inl ⟨by rfl, ?_⟩) (by assumption) ?_; rotate_left; (focus ((intro w hSw; (try dsimp only at hSw); go_simp); (try (with_reducible rfl)); done)); (try simp only [List.getElem_toArray, List.getElem_cons_zero, List.getElem_cons_succ, Act.put, List.setIfInBounds_toArray, List.set_cons_zero, List.set_cons_succ]))
  (refine wpAnyH_take (i := 7) (v := ?_) rfl (by decide +kernel) (by decide +kernel) (by decide +kernel) (fun _ _ _ h => h) (Or.inl ⟨by rfl, ?_⟩) (by assumption) ?_; rotate_left; (focus ((intro w hSw; (try dsimp only at hSw); go_simp); (try (with_reducible rfl)); done)); (try simp only [List.getElem_toArray, List.getElem_cons_zero, List.getElem_cons_succ, Act.put, List.setIfInBounds_toArray, List.set_cons_zero, List.set_cons_succ]))
  (refine wpAnyH_take (i := 8) (v := ?_) rfl (by decide +kernel) (by decide +kernel) (by decide +kernel) (fun _ _ _ h => h) (Or.inl ⟨by rfl, ?_⟩) (by assumption) ?_; rotate_left; (focus ((intro w hSw; (try dsimp only at hSw); go_simp); (try (with_reducible rfl)); done)); (try simp only [List.getElem_toArray, List.getElem_cons_zero, List.getElem_cons_succ, Act.put, List.setIfInBounds_toArray, List.set_cons_zero, List.set_cons_succ]))
  (refine wpAnyH_ready (rs := [9]) (by decide +kernel) (by simp) ?_; refine AllReadyH.cons rfl (fun K hK => ?_) AllReadyH.nil; go_simp; refine hK.out _ _ ?_ (fun hHeld => ?_); (focus ((try dsimp only); (first | (with_reducible exact ⟨HK.c0, HK.c1, hcell⟩) | exact KS.out _))); clear hK K; (try simp only [List.getElem_toArray, List.getElem_cons_zero, List.getElem_cons_succ, Act.put, List.setIfInBounds_toArray, List.set_cons_zero, List.set_cons_succ]))
  (refine wpAnyH_take (i := 10) (v := ?_) rfl (by decide +kernel) (by decide +kernel) (by decide +kernel) (fun _ _ _ h => h) (Or.inl ⟨by rfl, ?_⟩) (by assumption) ?_; rotate_left; (focus ((intro w hSw; (try dsimp only at hSw); go_simp); (try (with_reducible rfl)); done)); (try simp only [List.getElem_toArray, List.getElem_cons_zero, List.getElem_cons_succ, Act.put, List.setIfInBounds_toArray, List.set_cons_zero, List.set_cons_succ]))
  refine wpAnyH_done (by decide +kernel) ?_ _
  go_upto_region 8 with fail
  refine kwp_named ?_
  intro W5 hW5
  replace HP : At W5 pp [.slice none 0 0, .slice none 0 0, .string ⟨#[49]⟩] := by rw [hW5]; exact HP.put (i := 0) (by simp) _
  replace HR : At W5 (w.heap.size + 1) [.slice none 0 0, .slice none 0 0, .string ⟨#[]⟩] := by rw [hW5]; exact HR.far hrp _
  replace HB : Bel w W5 := by rw [hW5]; exact Below.setCell HB hpw _
  clear hW5 hp_f0 hp_0 KS hcell hadl hb HK CA HS0
  replace HR := HR.dr; replace HP := HP.dr; replace HB := HB.dr
  refine wp_region_held_drew (S := fun w' => w'.cell? ⟨pp, 0, none⟩ = some (.slice none 0 0) ∧ w'.cell? ⟨pp, 1, none⟩ = some (.slice none 0 0) ∧ w'.cell? ⟨pp, 2, none⟩ = some (.string ⟨#[49]⟩)) (by kernel_rfl) ?_ (fun hHeld => ?_)
  · exact ⟨HP.c0, HP.c1, HP.c2⟩
  have hr_f0 := HR.f0; have hr_f1 := HR.f1; have hr_f2 := HR.f2; have hr_0 := HR.c0; have hr_1 := HR.c1; have hr_2 := HR.c2; have hr_l := HR.lt
  have hrq : w.heap.size + 1 ≠ pp := fun e => hrp e.symm
  generalize W5.drew = Wd at *
  have KS : Hid (∀ x y z : Value, (((Wd.setCell ⟨w.heap.size + 1, 0, none⟩ x).setCell ⟨w.heap.size + 1, 1, none⟩ y).setCell ⟨w.heap.size + 1, 2, none⟩ z).cell? ⟨pp, 0, none⟩ = some (.slice none 0 0) ∧ (((Wd.setCell ⟨w.heap.size + 1, 0, none⟩ x).setCell ⟨w.heap.size + 1, 1, none⟩ y).setCell ⟨w.heap.size + 1, 2, none⟩ z).cell? ⟨pp, 1, none⟩ = some (.slice none 0 0) ∧ (((Wd.setCell ⟨w.heap.size + 1, 0, none⟩ x).setCell ⟨w.heap.size + 1, 1, none⟩ y).setCell ⟨w.heap.size + 1, 2, none⟩ z).cell? ⟨pp, 2, none⟩ = some (.string ⟨#[49]⟩)) := fun x y z => by
    have h5 := ((HP.far hrq (i := 0) x).far hrq (i := 1) y).far hrq (i := 2) z
    exact ⟨h5.c0, h5.c1, h5.c2⟩
  (refine wpAnyH_take (i := 0) (v := ?_) rfl (by decide +kernel) (by decide +kernel) (by decide +kernel) (fun _ _ _ h => h) (Or.inl ⟨by rfl, ?_⟩) (by assumption) ?_; rotate_left; (focus ((intro w hSw; (try dsimp only at hSw); go_simp); (try (with_reducible rfl)); done)); (try simp only [List.getElem_toArray, List.getElem_cons_zero, List.getElem_cons_succ, Act.put, List.setIfInBounds_toArray, List.set_cons_zero, List.set_cons_succ]))
  (refine wpAnyH_take (i := 1) (v := ?_) rfl (by decide +kernel) (by decide +kernel) (by decide +kernel) (fun _ _ _ h => h) (Or.inl ⟨by rfl, ?_⟩) (by assumption) ?_; rotate_left; (focus ((intro w hSw; (try dsimp only at hSw); go_simp); (try (with_reducible rfl)); done)); (try simp only [List.getElem_toArray, List.getElem_cons_zero, List.getElem_cons_succ, Act.put, List.setIfInBounds_toArray, List.set_cons_zero, List.set_cons_succ]))
  (refine wpAnyH_take (i := 2) (v := ?_) rfl (by decide +kernel) (by decide +kernel) (by decide +kernel) (fun _ _ _ h => h) (Or.inl ⟨by rfl, ?_⟩) (by assumption) ?_; rotate_left; (focus ((intro w hSw; (try dsimp only at hSw); go_simp); (try (with_reducible rfl)); done)); (try simp only [List.getElem_toArray, List.getElem_cons_zero, List.getElem_cons_succ, Act.put, List.setIfInBounds_toArray, List.set_cons_zero, List.set_cons_succ]))
  (refine wpAnyH_take (i := 3) (v := undef) rfl (by decide +kernel) (by decide +kernel) (by decide +kernel) (fun _ _ _ h => h) (Or.inr ⟨by rfl, rfl⟩) (by assumption) ?_; (try simp only [List.getElem_toArray, List.getElem_cons_zero, List.getElem_cons_succ, Act.put, List.setIfInBounds_toArray, List.set_cons_zero, List.set_cons_succ]))
  (refine wpAnyH_take (i := 4) (v := undef) rfl (by decide +kernel) (by decide +kernel) (by decide +kernel) (fun _ _ _ h => h) (Or.inr ⟨by rfl, rfl⟩) (by assumption) ?_; (try simp only [List.getElem_toArray, List.getElem_cons_zero, List.getElem_cons_succ, Act.put, List.setIfInBounds_toArray, List.set_cons_zero, List.set_cons_succ]))
  (refine wpAnyH_take (i := 5) (v := undef) rfl (by decide +kernel) (by decide +kernel) (by decide +kernel) (fun _ _ _ h => h) (Or.inr ⟨by rfl, rfl⟩) (by assumption) ?_; (try simp only [List.getElem_toArray, List.getElem_cons_zero, List.getElem_cons_succ, Act.put, List.setIfInBounds_toArray, List.set_cons_zero, List.set_cons_succ]))
  (refine wpAnyH_take (i := 6) (v := undef) rfl (by decide +kernel) (by decide +kernel) (by decide +kernel) (fun _ _ _ h => h) (Or.inr ⟨by rfl, rfl⟩) (by assumption) ?_; (try simp only [List.getElem_toArray, List.getElem_cons_zero, List.getElem_cons_succ, Act.put, List.setIfInBounds_toArray, List.set_cons_zero, List.set_cons_succ]))
  (refine wpAnyH_take (i := 7) (v := ?_) rfl (by decide +kernel) (by decide +kernel) (by decide +kernel) (fun _ _ _ h => h) (Or.inl ⟨by rfl, ?_⟩) (by assumption) ?_; rotate_left; (focus ((intro w hSw; (try dsimp only at hSw); go_simp); (try (with_reducible rfl)); done)); (try simp only [List.getElem_toArray, List.getElem_cons_zero, List.getElem_cons_succ, Act.put, List.setIfInBounds_toArray, List.set_cons_zero, List.set_cons_succ]))
  (refine wpAnyH_take (i := 8) (v := ?_) rfl (by decide +kernel) (by decide +kernel) (by decide +kernel) (fun _ _ _ h => h) (Or.inl ⟨by rfl, ?_⟩) (by assumption) ?_; rotate_left; (focus ((intro w hSw; (try dsimp only at hSw); go_simp); (try (with_reducible rfl)); done)); (try simp only [List.getElem_toArray, List.getElem_cons_zero, List.getElem_cons_succ, Act.put, List.setIfInBounds_toArray, List.set_cons_zero, List.set_cons_succ]))
  (refine wpAnyH_take (i := 9) (v := undef) rfl (by decide +kernel) (by decide +kernel) (by decide +kernel) (fun _ _ _ h => h) (Or.inr ⟨by rfl, rfl⟩) (by assumption) ?_; (try simp only [List.getElem_toArray, List.getElem_cons_zero, List.getElem_cons_succ, Act.put, List.setIfInBounds_toArray, List.set_cons_zero, List.set_cons_succ]))
  (refine wpAnyH_take (i := 10) (v := undef) rfl (by decide +kernel) (by decide +kernel) (by decide +kernel) (fun _ _ _ h => h) (Or.inr ⟨by rfl, rfl⟩) (by assumption) ?_; (try simp only [List.getElem_toArray, List.getElem_cons_zero, List.getElem_cons_succ, Act.put, List.setIfInBounds_toArray, List.set_cons_zero, List.set_cons_succ]))
  (refine wpAnyH_take (i := 11) (v := undef) rfl (by decide +kernel) (by decide +kernel) (by decide +kernel) (fun _ _ _ h => h) (Or.inr ⟨by rfl, rfl⟩) (by assumption) ?_; (try simp only [List.getElem_toArray, List.getElem_cons_zero, List.getElem_cons_succ, Act.put, List.setIfInBounds_toArray, List.set_cons_zero, List.set_cons_succ]))
  (refine wpAnyH_take (i := 12) (v := undef) rfl (by decide +kernel) (by decide +kernel) (by decide +kernel) (fun _ _ _ h => h) (Or.inr ⟨by rfl, rfl⟩) (by assumption) ?_; (try simp only [List.getElem_toArray, List.getElem_cons_zero, List.getElem_cons_succ, Act.put, List.setIfInBounds_toArray, List.set_cons_zero, List.set_cons_succ]))
  (refine wpAnyH_take (i := 13) (v := ?_) rfl (by decide +kernel) (by decide +kernel) (by decide +kernel) (fun _ _ _ h => h) (Or.inl ⟨by rfl, ?_⟩) (by assumption) ?_; rotate_left; (focus ((intro w hSw; (try dsimp only at hSw); go_simp); (try (with_reducible rfl)); done)); (try simp only [List.getElem_toArray, List.getElem_cons_zero, List.getElem_cons_succ, Act.put, List.setIfInBounds_toArray, List.set_cons_zero, List.set_cons_succ]))
  (refine wpAnyH_ready (rs := [14]) (by decide +kernel) (by simp) ?_; refine AllReadyH.cons rfl (fun K hK => ?_) AllReadyH.nil; go_simp; refine hK.out _ _ ?_ (fun hHeld => ?_); (focus ((try dsimp only); (first | (with_reducible exact ⟨HP.c0, HP.c1, HP.c2⟩) | exact KS.out _ _ _))); clear hK K; (try simp only [List.getElem_toArray, List.getElem_cons_zero, List.getElem_cons_succ, Act.put, List.setIfInBounds_toArray, List.set_cons_zero, List.set_cons_succ]))
  (refine wpAnyH_take (i := 15) (v := ?_) rfl (by decide +kernel) (by decide +kernel) (by decide +kernel) (fun _ _ _ h => h) (Or.inl ⟨by rfl, ?_⟩) (by assumption) ?_; rotate_left; (focus ((intro w hSw; (try dsimp only at hSw); go_simp); (try (with_reducible rfl)); done)); (try simp only [List.getElem_toArray, List.getElem_cons_zero, List.getElem_cons_succ, Act.put, List.setIfInBounds_toArray, List.set_cons_zero, List.set_cons_succ]))
  refine wpAnyH_done (by decide +kernel) ?_ _
  go_wp2_with fail
  have hs : w.heap.size ≤ w.heap.size + 1 := Nat.le_succ _
  refine bodyPost_ret (v := .tuple #[.agg #[.slice none 0 0, .slice none 0 0, .string ⟨#[49]⟩], .bool false]) (by simp [results, Tryz.results43, go_sem, hr_0, hr_1, hr_2, hr_l]) rfl ⟨_, _, _, _, _, _, _, rfl, kbelow3 HB hs _ _ _⟩
set_option maxHeartbeats 8000000 in
theorem part_one_zero (h : Ss w A names) (hn : n = names.length) (hl : n ≤ 1000000) (h' : Ss w B ps) (hm : m = ps.length) (hl' : m ≤ 1000000) (h2 : Ss w D l) (hj : j = l.length) (hjl : j ≤ 1000000) (hc : cutBy perB l = [a]) (hal : a.length ≤ 1000000) (hau : ∀ x ∈ a, x.size ≤ 2000000) (hps : ∀ x ∈ ps, x.size ≤ 2000000) {r : List AL} (hres : atomsL names ps a = some r) (hr : r.length = 0) :
    Calls Tryz.prog 43 #[.agg #[.slice A n c, .slice B m d], .slice D j g] w (PartR w (partD names ps l)) := by
  obtain ⟨W1, hW1⟩ : ∃ X, X = (w.alloc (.cells #[.slice A n c, .slice B m d] 48)).alloc (.cells #[.slice none 0 0, .slice none 0 0, .string ⟨#[]⟩] 86) := ⟨_, rfl⟩
  have HK : At W1 w.heap.size [.slice A n c, .slice B m d] := by rw [hW1]; exact (at_new0 _ _ _).al _
  have HR : At W1 (w.heap.size + 1) [.slice none 0 0, .slice none 0 0, .string ⟨#[]⟩] := by rw [hW1]; exact at_new1 _ _ _ _
  have HB : Bel w W1 := by rw [hW1]; exact ((Bel.refl w).al _).al _
  have HB0 : Hid (Below w.heap.size w W1) := HB
  have CC : Hid (Calls Tryz.prog 42 #[.slice D j g, .string ⟨#[112, 101, 114]⟩] W1 (ListsC W1 [a])) := hc ▸ rcut_any (t := perB) (h2.up HB0) hj hjl
  have CA : Hid (∀ (W' : World) (D0 : Option Addr) (c0 : Nat), Bel w W' → Ss W' D0 a → a.length ≤ c0 → Calls Tryz.prog 69 #[.agg #[.slice A n c, .slice B m d], .slice D0 a.length c0] W' (AtomsR W' (some r))) := fun W' D0 c0 hb hs hg =>
    ratoms_any (h.up hb.hid) hn hl (h'.up hb.hid) hm hl' hs rfl hg hal hau hps hres
  have HV : partD names ps l = none := by unfold partD; rw [hc, partC_one, hres]; show (if 0 < r.length ∧ r.length ≤ 8 then some (r, ([] : List AL), oneB) else none) = _; rw [if_neg (by omega)]
  have HW := khide hW1
  rw [HV]
  clear hW1 HV h2 hj hjl h h' hn hm hl hl' hc hal hau hps hres HB0
  have e1 : decide ((0 : Int) < (r.length : Int)) = false := decide_eq_false (by omega)
  have e2 : decide (0 < r.length) = false := decide_eq_false (by omega)
  clear hr
  go_enter Tryz.func43, Tryz.ntmps43
  go_upto_region 1 with fail
  rw [← HW.out]
  go_upto_region 6 with (first | (go_at_call 42; (with_reducible refine (CC.out).mono ?_); rintro e w2 ⟨ad, cc, rfl, hss, hcap, hb2⟩; replace HK := HK.up hb2; replace HR := HR.up hb2; replace HB := HB.up hb2) | fail)
  obtain ⟨ad', D0, c0, e0, hab, hc0, hs0, -⟩ := hss.out.at_ (k := 0) (by simp)
  injection e0 with e0
  subst e0
  have hcp : a.length ≤ c0 := hcap 0 _ _ _ (by simp) hc0
  rw [addr_zero] at hc0
  replace hc0 : w2.cell? ad = some (.slice D0 a.length c0) := hc0
  have HS0 : Ss w2 D0 a := hs0
  have hkl := HK.lt
  have hrl := HR.lt
  refine kwp_named ?_
  intro W3 hW3
  have HP : At W3 w2.heap.size [.slice none 0 0, .slice none 0 0, .string ⟨#[49]⟩] := by rw [hW3]; exact at_new0 _ _ _
  have HBC : Hid (Bel w2 W3) := by rw [hW3]; exact (Bel.refl w2).al _
  have hcell : W3.cell? ad = some (.slice D0 a.length c0) := (HBC.out.cell hab).trans hc0
  replace HS0 : Ss W3 D0 a := HS0.up HBC.out
  replace HB : Bel w W3 := HB.up HBC.out
  replace HK := HK.up HBC.out
  replace HR := HR.up HBC.out
  have hadw : ad.block < W3.heap.size := Nat.lt_of_lt_of_le hab HBC.out.size
  have hpw : w.heap.size ≤ w2.heap.size := Nat.le_of_lt hkl
  have hap : ad.block ≠ w2.heap.size := Nat.ne_of_lt hab
  have hkp : w2.heap.size ≠ w.heap.size := Nat.ne_of_gt hkl
  have hrp : w2.heap.size ≠ w.heap.size + 1 := Nat.ne_of_gt hrl
  replace hap : w2.heap.size ≠ ad.block := fun e => hap e.symm
  obtain ⟨pp, hpp⟩ : ∃ p, p = w2.heap.size := ⟨_, rfl⟩
  rw [← hpp] at HP hap hkp hrp hpw
  rw [← hpp]
  clear hW3 hpp hss hcap hc0 hs0 hab CC HBC hkl hrl
  replace HK := HK.dr; replace HR := HR.dr; replace HP := HP.dr; replace HB := HB.dr; replace HS0 := HS0.dr
  refine wp_region_held_drew (S := fun w' => w'.cell? ⟨w.heap.size, 0, none⟩ = some (.slice A n c) ∧ w'.cell? ⟨w.heap.size, 1, none⟩ = some (.slice B m d) ∧ w'.cell? ad = some (.slice D0 a.length c0)) (by kernel_rfl) ?_ (fun hHeld => ?_)
  · exact ⟨HK.c0, HK.c1, hcell⟩
  have hadl : ad.block < W3.drew.heap.size := hadw
  replace hcell : W3.drew.cell? ad = some (.slice D0 a.length c0) := hcell
  have hp_f0 := HP.f0
  generalize W3.drew = Wd at *
  have hpl := HP.lt
  have hrl2 := HR.lt
  have hwb := HB.size
  obtain ⟨bs, hbs⟩ : ∃ b, b = Wd.heap.size := ⟨_, rfl⟩
  rw [← hbs] at hpl hrl2 hwb
  have HBS := khide hbs
  clear hbs
  (refine wpAnyH_take (i := 0) (v := ?_) rfl (by decide +kernel) (by decide +kernel) (by decide +kernel) (fun _ _ _ h => h) (Or.inl ⟨by rfl, ?_⟩) (by assumption) ?_; rotate_left; (focus ((intro w hSw; (try dsimp only at hSw); go_simp); (try (with_reducible rfl)); done)); (try simp only [List.getElem_toArray, List.getElem_cons_zero, List.getElem_cons_succ, Act.put, List.setIfInBounds_toArray, List.set_cons_zero, List.set_cons_succ]))
  (refine wpAnyH_take (i := 1) (v := ?_) rfl (by decide +kernel) (by decide +kernel) (by decide +kernel) (fun _ _ _ h => h) (Or.inl ⟨by rfl, ?_⟩) (by assumption) ?_; rotate_left; (focus ((intro w hSw; (try dsimp only at hSw); go_simp); (try (with_reducible rfl)); done)); (try simp only [List.getElem_toArray, List.getElem_cons_zero, List.getElem_cons_succ, Act.put, List.setIfInBounds_toArray, List.set_cons_zero, List.set_cons_succ]))
  (refine wpAnyH_take (i := 2) (v := ?_) rfl (by decide +kernel) (by decide +kernel) (by decide +kernel) (fun _ _ _ h => h) (Or.inl ⟨by rfl, ?_⟩) (by assumption) ?_; rotate_left; (focus ((intro w hSw; (try dsimp only at hSw); go_simp); (try (with_reducible rfl)); done)); (try simp only [List.getElem_toArray, List.getElem_cons_zero, List.getElem_cons_succ, Act.put, List.setIfInBounds_toArray, List.set_cons_zero, List.set_cons_succ]))
  (refine wpAnyH_take (i := 3) (v := ?_) rfl (by decide +kernel) (by decide +kernel) (by decide +kernel) (fun _ _ _ h => h) (Or.inl ⟨by rfl, ?_⟩) (by assumption) ?_; rotate_left; (focus ((intro w hSw; (try dsimp only at hSw); go_simp); (try (with_reducible rfl)); done)); (try simp only [List.getElem_toArray, List.getElem_cons_zero, List.getElem_cons_succ, Act.put, List.setIfInBounds_toArray, List.set_cons_zero, List.set_cons_succ]))
  (refine wpAnyH_ready (rs := [4]) (by decide +kernel) (by simp) ?_; refine AllReadyH.cons rfl (fun K hK => ?_) AllReadyH.nil; go_simp; (go_at_call 69; (with_reducible refine (CA.out _ _ _ HB HS0 hcp).mono ?_); rintro e w4 ⟨A1, c1, rfl, hA1, HO, hb⟩; replace HO : Hid (w4.ownsRow bs 125 3 (.slice A1 r.length c1) r.length (cellsA r)) := (by have h9 := HO; rw [← HBS.out] at h9; exact h9); replace HK := HK.up hb.hid; replace HR := HR.up hb.hid; replace HP := HP.up hb.hid; replace HB := HB.up hb.hid; replace hcell : w4.cell? ad = some (.slice D0 a.length c0) := (hb.cell hadl).trans hcell; have KS : Hid (∀ v : Value, (w4.setCell ⟨pp, 0, none⟩ v).cell? ⟨w.heap.size, 0, none⟩ = some (.slice A n c) ∧ (w4.setCell ⟨pp, 0, none⟩ v).cell? ⟨w.heap.size, 1, none⟩ = some (.slice B m d) ∧ (w4.setCell ⟨pp, 0, none⟩ v).cell? ad = some (.slice D0 a.length c0)) := fun v => ⟨(World.cell?_setCell_far _ _ _ _ hkp).trans HK.c0, (World.cell?_setCell_far _ _ _ _ hkp).trans HK.c1, (World.cell?_setCell_far _ _ _ _ hap).trans hcell⟩; clear hp_f0; have hp_f0 := HP.f0; have hp_0 := HP.c0); (try (go_wp2_with fail)); refine hK.out _ _ ?_ (fun hHeld => ?_); (focus ((try dsimp only); (first | (with_reducible exact ⟨HK.c0, HK.c1, hcell⟩) | exact KS.out _))); clear hK K; (try simp only [List.getElem_toArray, List.getElem_cons_zero, List.getElem_cons_succ, Act.put, List.setIfInBounds_toArray, List.set_cons_zero, List.set_cons_succ]))
  (refine wpAnyH_take (i := 5) (v := ?_) rfl (by decide +kernel) (by decide +kernel) (by decide +kernel) (fun _ _ _ h => h) (Or.inl ⟨by rfl, ?_⟩) (by assumption) ?_; rotate_left; (focus ((intro w hSw; (try dsimp only at hSw); go_simp); (try (with_reducible rfl)); done)); (try simp only [List.getElem_toArray, List.getElem_cons_zero, List.getElem_cons_succ, Act.put, List.setIfInBounds_toArray, List.set_cons_zero, List.set_cons_succ]))
  (refine wpAnyH_take (i := 6) (v := ?_) rfl (by decide +kernel) (by decide +kernel) (by decide +kernel) (fun _ _ _ h => h) (Or.inl ⟨by rfl, ?_⟩) (by assumption) ?_; rotate_left; (focus ((intro w hSw; (try dsimp only at hSw); go_simp); (try (with_reducible rfl)); done)); (try simp only [List.getElem_toArray, List.getElem_cons_zero, List.getElem_cons_succ, Act.put, List.setIfInBounds_toArray, List.set_cons_zero, List.set_cons_succ]))
  (refine wpAnyH_take (i := 7) (v := ?_) rfl (by decide +kernel) (by decide +kernel) (by decide +kernel) (fun _ _ _ h => h) (Or.inl ⟨by rfl, ?_⟩) (by assumption) ?_; rotate_left; (focus ((intro w hSw; (try dsimp only at hSw); go_simp); (try (with_reducible rfl)); done)); (try simp only [List.getElem_toArray, List.getElem_cons_zero, List.getElem_cons_succ, Act.put, List.setIfInBounds_toArray, List.set_cons_zero, List.set_cons_succ]))
  (refine wpAnyH_take (i := 8) (v := ?_) rfl (by decide +kernel) (by decide +kernel) (by decide +kernel) (fun _ _ _ h => h) (Or.inl ⟨by rfl, ?_⟩) (by assumption) ?_; rotate_left; (focus ((intro w hSw; (try dsimp only at hSw); go_simp); (try (with_reducible rfl)); done)); (try simp only [List.getElem_toArray, List.getElem_cons_zero, List.getElem_cons_succ, Act.put, List.setIfInBounds_toArray, List.set_cons_zero, List.set_cons_succ]))
  (refine wpAnyH_ready (rs := [9]) (by decide +kernel) (by simp) ?_; refine AllReadyH.cons rfl (fun K hK => ?_) AllReadyH.nil; go_simp; refine hK.out _ _ ?_ (fun hHeld => ?_); (focus ((try dsimp only); (first | (with_reducible exact ⟨HK.c0, HK.c1, hcell⟩) | exact KS.out _))); clear hK K; (try simp only [List.getElem_toArray, List.getElem_cons_zero, List.getElem_cons_succ, Act.put, List.setIfInBounds_toArray, List.set_cons_zero, List.set_cons_succ]))
  (refine wpAnyH_take (i := 10) (v := ?_) rfl (by decide +kernel) (by decide +kernel) (by decide +kernel) (fun _ _ _ h => h) (Or.inl ⟨by rfl, ?_⟩) (by assumption) ?_; rotate_left; (focus ((intro w hSw; (try dsimp only at hSw); go_simp); (try (with_reducible rfl)); done)); (try simp only [List.getElem_toArray, List.getElem_cons_zero, List.getElem_cons_succ, Act.put, List.setIfInBounds_toArray, List.set_cons_zero, List.set_cons_succ]))
  refine wpAnyH_done (by decide +kernel) ?_ _
  go_upto_region 8 with fail
  refine kwp_named ?_
  intro W5 hW5
  replace HP : At W5 pp [.slice A1 r.length c1, .slice none 0 0, .string ⟨#[49]⟩] := by rw [hW5]; exact HP.put (i := 0) (by simp) _
  replace HR : At W5 (w.heap.size + 1) [.slice none 0 0, .slice none 0 0, .string ⟨#[]⟩] := by rw [hW5]; exact HR.far hrp _
  replace HB : Bel w W5 := by rw [hW5]; exact Below.setCell HB hpw _
  replace HO : Hid (W5.ownsRow bs 125 3 (.slice A1 r.length c1) r.length (cellsA r)) := by rw [hW5]; exact ownsRow_setCell_below HO.out hpl _
  clear hW5 hp_f0 hp_0 KS hcell hadl hb HK CA HS0
  replace HR := HR.dr; replace HP := HP.dr; replace HB := HB.dr; replace HO : Hid (W5.drew.ownsRow bs 125 3 (.slice A1 r.length c1) r.length (cellsA r)) := HO
  refine wp_region_held_drew (S := fun w' => w'.cell? ⟨pp, 0, none⟩ = some (.slice A1 r.length c1) ∧ w'.cell? ⟨pp, 1, none⟩ = some (.slice none 0 0) ∧ w'.cell? ⟨pp, 2, none⟩ = some (.string ⟨#[49]⟩)) (by kernel_rfl) ?_ (fun hHeld => ?_)
  · exact ⟨HP.c0, HP.c1, HP.c2⟩
  have hr_f0 := HR.f0; have hr_f1 := HR.f1; have hr_f2 := HR.f2; have hr_0 := HR.c0; have hr_1 := HR.c1; have hr_2 := HR.c2; have hr_l := HR.lt
  have hrq : w.heap.size + 1 ≠ pp := fun e => hrp e.symm
  generalize W5.drew = Wd at *
  have KS : Hid (∀ x y z : Value, (((Wd.setCell ⟨w.heap.size + 1, 0, none⟩ x).setCell ⟨w.heap.size + 1, 1, none⟩ y).setCell ⟨w.heap.size + 1, 2, none⟩ z).cell? ⟨pp, 0, none⟩ = some (.slice A1 r.length c1) ∧ (((Wd.setCell ⟨w.heap.size + 1, 0, none⟩ x).setCell ⟨w.heap.size + 1, 1, none⟩ y).setCell ⟨w.heap.size + 1, 2, none⟩ z).cell? ⟨pp, 1, none⟩ = some (.slice none 0 0) ∧ (((Wd.setCell ⟨w.heap.size + 1, 0, none⟩ x).setCell ⟨w.heap.size + 1, 1, none⟩ y).setCell ⟨w.heap.size + 1, 2, none⟩ z).cell? ⟨pp, 2, none⟩ = some (.string ⟨#[49]⟩)) := fun x y z => by
    have h5 := ((HP.far hrq (i := 0) x).far hrq (i := 1) y).far hrq (i := 2) z
    exact ⟨h5.c0, h5.c1, h5.c2⟩
  (refine wpAnyH_take (i := 0) (v := ?_) rfl (by decide +kernel) (by decide +kernel) (by decide +kernel) (fun _ _ _ h => h) (Or.inl ⟨by rfl, ?_⟩) (by assumption) ?_; rotate_left; (focus ((intro w hSw; (try dsimp only at hSw); go_simp); (try (with_reducible rfl)); done)); (try simp only [List.getElem_toArray, List.getElem_cons_zero, List.getElem_cons_succ, Act.put, List.setIfInBounds_toArray, List.set_cons_zero, List.set_cons_succ]))
  (refine wpAnyH_take (i := 1) (v := ?_) rfl (by decide +kernel) (by decide +kernel) (by decide +kernel) (fun _ _ _ h => h) (Or.inl ⟨by rfl, ?_⟩) (by assumption) ?_; rotate_left; (focus ((intro w hSw; (try dsimp only at hSw); go_simp); (try (with_reducible rfl)); done)); (try simp only [List.getElem_toArray, List.getElem_cons_zero, List.getElem_cons_succ, Act.put, List.setIfInBounds_toArray, List.set_cons_zero, List.set_cons_succ]))
  (refine wpAnyH_take (i := 2) (v := ?_) rfl (by decide +kernel) (by decide +kernel) (by decide +kernel) (fun _ _ _ h => h) (Or.inl ⟨by rfl, ?_⟩) (by assumption) ?_; rotate_left; (focus ((intro w hSw; (try dsimp only at hSw); go_simp); (try (with_reducible rfl)); done)); (try simp only [List.getElem_toArray, List.getElem_cons_zero, List.getElem_cons_succ, Act.put, List.setIfInBounds_toArray, List.set_cons_zero, List.set_cons_succ]))
  (refine wpAnyH_take (i := 3) (v := ?_) rfl (by decide +kernel) (by decide +kernel) (by decide +kernel) (fun _ _ _ h => h) (Or.inl ⟨by rfl, ?_⟩) (by assumption) ?_; rotate_left; (focus ((intro w hSw; (try dsimp only at hSw); go_simp); (try (with_reducible rfl)); done)); (try simp only [List.getElem_toArray, List.getElem_cons_zero, List.getElem_cons_succ, Act.put, List.setIfInBounds_toArray, List.set_cons_zero, List.set_cons_succ]))
  (refine wpAnyH_take (i := 4) (v := ?_) rfl (by decide +kernel) (by decide +kernel) (by decide +kernel) (fun _ _ _ h => h) (Or.inl ⟨by rfl, ?_⟩) (by assumption) ?_; rotate_left; (focus ((intro w hSw; (try dsimp only at hSw); go_simp); (try (with_reducible rfl)); done)); (try simp only [List.getElem_toArray, List.getElem_cons_zero, List.getElem_cons_succ, Act.put, List.setIfInBounds_toArray, List.set_cons_zero, List.set_cons_succ]))
  (refine wpAnyH_take (i := 5) (v := ?_) rfl (by decide +kernel) (by decide +kernel) (by decide +kernel) (fun _ _ _ h => h) (Or.inl ⟨by rfl, ?_⟩) (by assumption) ?_; rotate_left; (focus ((intro w hSw; (try dsimp only at hSw); go_simp); (try (with_reducible rfl)); done)); (try simp only [List.getElem_toArray, List.getElem_cons_zero, List.getElem_cons_succ, Act.put, List.setIfInBounds_toArray, List.set_cons_zero, List.set_cons_succ]))
  (refine wpAnyH_take (i := 6) (v := ?_) rfl (by decide +kernel) (by decide +kernel) (by decide +kernel) (fun _ _ _ h => h) (Or.inl ⟨by rfl, ?_⟩) (by assumption) ?_; rotate_left; (focus ((intro w hSw; (try dsimp only at hSw); go_simp); (try (with_reducible rfl)); done)); (try simp only [List.getElem_toArray, List.getElem_cons_zero, List.getElem_cons_succ, Act.put, List.setIfInBounds_toArray, List.set_cons_zero, List.set_cons_succ]))
  (refine wpAnyH_take (i := 7) (v := ?_) rfl (by decide +kernel) (by decide +kernel) (by decide +kernel) (fun _ _ _ h => h) (Or.inl ⟨by rfl, ?_⟩) (by assumption) ?_; rotate_left; (focus ((intro w hSw; (try dsimp only at hSw); go_simp); (try (with_reducible rfl)); done)); (try simp only [List.getElem_toArray, List.getElem_cons_zero, List.getElem_cons_succ, Act.put, List.setIfInBounds_toArray, List.set_cons_zero, List.set_cons_succ]))
  (refine wpAnyH_take (i := 8) (v := ?_) rfl (by decide +kernel) (by decide +kernel) (by decide +kernel) (fun _ _ _ h => h) (Or.inl ⟨by rfl, ?_⟩) (by assumption) ?_; rotate_left; (focus ((intro w hSw; (try dsimp only at hSw); go_simp); (try (with_reducible rfl)); done)); (try simp only [List.getElem_toArray, List.getElem_cons_zero, List.getElem_cons_succ, Act.put, List.setIfInBounds_toArray, List.set_cons_zero, List.set_cons_succ]))
  (refine wpAnyH_take (i := 9) (v := undef) rfl (by decide +kernel) (by decide +kernel) (by decide +kernel) (fun _ _ _ h => h) (Or.inr ⟨by rfl, rfl⟩) (by assumption) ?_; (try simp only [List.getElem_toArray, List.getElem_cons_zero, List.getElem_cons_succ, Act.put, List.setIfInBounds_toArray, List.set_cons_zero, List.set_cons_succ]))
  (refine wpAnyH_take (i := 10) (v := undef) rfl (by decide +kernel) (by decide +kernel) (by decide +kernel) (fun _ _ _ h => h) (Or.inr ⟨by rfl, rfl⟩) (by assumption) ?_; (try simp only [List.getElem_toArray, List.getElem_cons_zero, List.getElem_cons_succ, Act.put, List.setIfInBounds_toArray, List.set_cons_zero, List.set_cons_succ]))
  (refine wpAnyH_take (i := 11) (v := undef) rfl (by decide +kernel) (by decide +kernel) (by decide +kernel) (fun _ _ _ h => h) (Or.inr ⟨by rfl, rfl⟩) (by assumption) ?_; (try simp only [List.getElem_toArray, List.getElem_cons_zero, List.getElem_cons_succ, Act.put, List.setIfInBounds_toArray, List.set_cons_zero, List.set_cons_succ]))
  (refine wpAnyH_take (i := 12) (v := undef) rfl (by decide +kernel) (by decide +kernel) (by decide +kernel) (fun _ _ _ h => h) (Or.inr ⟨by rfl, rfl⟩) (by assumption) ?_; (try simp only [List.getElem_toArray, List.getElem_cons_zero, List.getElem_cons_succ, Act.put, List.setIfInBounds_toArray, List.set_cons_zero, List.set_cons_succ]))
  (refine wpAnyH_take (i := 13) (v := ?_) rfl (by decide +kernel) (by decide +kernel) (by decide +kernel) (fun _ _ _ h => h) (Or.inl ⟨by rfl, ?_⟩) (by assumption) ?_; rotate_left; (focus ((intro w hSw; (try dsimp only at hSw); go_simp); (try (with_reducible rfl)); done)); (try simp only [List.getElem_toArray, List.getElem_cons_zero, List.getElem_cons_succ, Act.put, List.setIfInBounds_toArray, List.set_cons_zero, List.set_cons_succ]))
  (refine wpAnyH_ready (rs := [14]) (by decide +kernel) (by simp) ?_; refine AllReadyH.cons rfl (fun K hK => ?_) AllReadyH.nil; go_simp; refine hK.out _ _ ?_ (fun hHeld => ?_); (focus ((try dsimp only); (first | (with_reducible exact ⟨HP.c0, HP.c1, HP.c2⟩) | exact KS.out _ _ _))); clear hK K; (try simp only [List.getElem_toArray, List.getElem_cons_zero, List.getElem_cons_succ, Act.put, List.setIfInBounds_toArray, List.set_cons_zero, List.set_cons_succ]))
  (refine wpAnyH_take (i := 15) (v := ?_) rfl (by decide +kernel) (by decide +kernel) (by decide +kernel) (fun _ _ _ h => h) (Or.inl ⟨by rfl, ?_⟩) (by assumption) ?_; rotate_left; (focus ((intro w hSw; (try dsimp only at hSw); go_simp); (try (with_reducible rfl)); done)); (try simp only [List.getElem_toArray, List.getElem_cons_zero, List.getElem_cons_succ, Act.put, List.setIfInBounds_toArray, List.set_cons_zero, List.set_cons_succ]))
  refine wpAnyH_done (by decide +kernel) ?_ _
  go_wp2_with fail
  have hs : w.heap.size ≤ w.heap.size + 1 := Nat.le_succ _
  refine bodyPost_ret (v := .tuple #[.agg #[.slice A1 r.length c1, .slice none 0 0, .string ⟨#[49]⟩], .bool false]) (by simp [results, Tryz.results43, go_sem, hr_0, hr_1, hr_2, hr_l]) rfl ⟨_, _, _, _, _, _, _, rfl, kbelow3 HB hs _ _ _⟩
set_option maxHeartbeats 8000000 in
theorem part_one_yes (h : Ss w A names) (hn : n = names.length) (hl : n ≤ 1000000) (h' : Ss w B ps) (hm : m = ps.length) (hl' : m ≤ 1000000) (h2 : Ss w D l) (hj : j = l.length) (hjl : j ≤ 1000000) (hc : cutBy perB l = [a]) (hal : a.length ≤ 1000000) (hau : ∀ x ∈ a, x.size ≤ 2000000) (hps : ∀ x ∈ ps, x.size ≤ 2000000) {r : List AL} (hres : atomsL names ps a = some r) (hr : 0 < r.length ∧ r.length ≤ 8) :
    Calls Tryz.prog 43 #[.agg #[.slice A n c, .slice B m d], .slice D j g] w (PartR w (partD names ps l)) := by
  obtain ⟨W1, hW1⟩ : ∃ X, X = (w.alloc (.cells #[.slice A n c, .slice B m d] 48)).alloc (.cells #[.slice none 0 0, .slice none 0 0, .string ⟨#[]⟩] 86) := ⟨_, rfl⟩
  have HK : At W1 w.heap.size [.slice A n c, .slice B m d] := by rw [hW1]; exact (at_new0 _ _ _).al _
  have HR : At W1 (w.heap.size + 1) [.slice none 0 0, .slice none 0 0, .string ⟨#[]⟩] := by rw [hW1]; exact at_new1 _ _ _ _
  have HB : Bel w W1 := by rw [hW1]; exact ((Bel.refl w).al _).al _
  have HB0 : Hid (Below w.heap.size w W1) := HB
  have CC : Hid (Calls Tryz.prog 42 #[.slice D j g, .string ⟨#[112, 101, 114]⟩] W1 (ListsC W1 [a])) := hc ▸ rcut_any (t := perB) (h2.up HB0) hj hjl
  have CA : Hid (∀ (W' : World) (D0 : Option Addr) (c0 : Nat), Bel w W' → Ss W' D0 a → a.length ≤ c0 → Calls Tryz.prog 69 #[.agg #[.slice A n c, .slice B m d], .slice D0 a.length c0] W' (AtomsR W' (some r))) := fun W' D0 c0 hb hs hg =>
    ratoms_any (h.up hb.hid) hn hl (h'.up hb.hid) hm hl' hs rfl hg hal hau hps hres
  have HV : partD names ps l = some (r, [], oneB) := by unfold partD; rw [hc, partC_one, hres]; show (if 0 < r.length ∧ r.length ≤ 8 then some (r, ([] : List AL), oneB) else none) = _; rw [if_pos (by omega)]
  have HW := khide hW1
  rw [HV]
  clear hW1 HV h2 hj hjl h h' hn hm hl hl' hc hal hau hps hres HB0
  have e1 : decide ((0 : Int) < (r.length : Int)) = true := decide_eq_true (by omega)
  have e2 : decide (0 < r.length) = true := decide_eq_true (by omega)
  have e3 : decide ((r.length : Int) ≤ 8) = true := decide_eq_true (by omega)
  have e4 : decide (r.length ≤ 8) = true := decide_eq_true (by omega)
  clear hr
  go_enter Tryz.func43, Tryz.ntmps43
  go_upto_region 1 with fail
  rw [← HW.out]
  go_upto_region 6 with (first | (go_at_call 42; (with_reducible refine (CC.out).mono ?_); rintro e w2 ⟨ad, cc, rfl, hss, hcap, hb2⟩; replace HK := HK.up hb2; replace HR := HR.up hb2; replace HB := HB.up hb2) | fail)
  obtain ⟨ad', D0, c0, e0, hab, hc0, hs0, -⟩ := hss.out.at_ (k := 0) (by simp)
  injection e0 with e0
  subst e0
  have hcp : a.length ≤ c0 := hcap 0 _ _ _ (by simp) hc0
  rw [addr_zero] at hc0
  replace hc0 : w2.cell? ad = some (.slice D0 a.length c0) := hc0
  have HS0 : Ss w2 D0 a := hs0
  have hkl := HK.lt
  have hrl := HR.lt
  refine kwp_named ?_
  intro W3 hW3
  have HP : At W3 w2.heap.size [.slice none 0 0, .slice none 0 0, .string ⟨#[49]⟩] := by rw [hW3]; exact at_new0 _ _ _
  have HBC : Hid (Bel w2 W3) := by rw [hW3]; exact (Bel.refl w2).al _
  have hcell : W3.cell? ad = some (.slice D0 a.length c0) := (HBC.out.cell hab).trans hc0
  replace HS0 : Ss W3 D0 a := HS0.up HBC.out
  replace HB : Bel w W3 := HB.up HBC.out
  replace HK := HK.up HBC.out
  replace HR := HR.up HBC.out
  have hadw : ad.block < W3.heap.size := Nat.lt_of_lt_of_le hab HBC.out.size
  have hpw : w.heap.size ≤ w2.heap.size := Nat.le_of_lt hkl
  have hap : ad.block ≠ w2.heap.size := Nat.ne_of_lt hab
  have hkp : w2.heap.size ≠ w.heap.size := Nat.ne_of_gt hkl
  have hrp : w2.heap.size ≠ w.heap.size + 1 := Nat.ne_of_gt hrl
  replace hap : w2.heap.size ≠ ad.block := fun e => hap e.symm
  obtain ⟨pp, hpp⟩ : ∃ p, p = w2.heap.size := ⟨_, rfl⟩
  rw [← hpp] at HP hap hkp hrp hpw
  rw [← hpp]
  clear hW3 hpp hss hcap hc0 hs0 hab CC HBC hkl hrl
  replace HK := HK.dr; replace HR := HR.dr; replace HP := HP.dr; replace HB := HB.dr; replace HS0 := HS0.dr
  refine wp_region_held_drew (S := fun w' => w'.cell? ⟨w.heap.size, 0, none⟩ = some (.slice A n c) ∧ w'.cell? ⟨w.heap.size, 1, none⟩ = some (.slice B m d) ∧ w'.cell? ad = some (.slice D0 a.length c0)) (by kernel_rfl) ?_ (fun hHeld => ?_)
  · exact ⟨HK.c0, HK.c1, hcell⟩
  have hadl : ad.block < W3.drew.heap.size := hadw
  replace hcell : W3.drew.cell? ad = some (.slice D0 a.length c0) := hcell
  have hp_f0 := HP.f0
  generalize W3.drew = Wd at *
  have hpl := HP.lt
  have hrl2 := HR.lt
  have hwb := HB.size
  obtain ⟨bs, hbs⟩ : ∃ b, b = Wd.heap.size := ⟨_, rfl⟩
  rw [← hbs] at hpl hrl2 hwb
  have HBS := khide hbs
  clear hbs
  (refine wpAnyH_take (i := 0) (v := ?_) rfl (by decide +kernel) (by decide +kernel) (by decide +kernel) (fun _ _ _ h => h) (Or.inl ⟨by rfl, ?_⟩) (by assumption) ?_; rotate_left; (focus ((intro w hSw; (try dsimp only at hSw); go_simp); (try (with_reducible rfl)); done)); (try simp only [List.getElem_toArray, List.getElem_cons_zero, List.getElem_cons_succ, Act.put, List.setIfInBounds_toArray, List.set_cons_zero, List.set_cons_succ]))
  (refine wpAnyH_take (i := 1) (v := ?_) rfl (by decide +kernel) (by decide +kernel) (by decide +kernel) (fun _ _ _ h => h) (Or.inl ⟨by rfl, ?_⟩) (by assumption) ?_; rotate_left; (focus ((intro w hSw; (try dsimp only at hSw); go_simp); (try (with_reducible rfl)); done)); (try simp only [List.getElem_toArray, List.getElem_cons_zero, List.getElem_cons_succ, Act.put, List.setIfInBounds_toArray, List.set_cons_zero, List.set_cons_succ]))
  (refine wpAnyH_take (i := 2) (v := ?_) rfl (by decide +kernel) (by decide +kernel) (by decide +kernel) (fun _ _ _ h => h) (Or.inl ⟨by rfl, ?_⟩) (by assumption) ?_; rotate_left; (focus ((intro w hSw; (try dsimp only at hSw); go_simp); (try (with_reducible rfl)); done)); (try simp only [List.getElem_toArray, List.getElem_cons_zero, List.getElem_cons_succ, Act.put, List.setIfInBounds_toArray, List.set_cons_zero, List.set_cons_succ]))
  (refine wpAnyH_take (i := 3) (v := ?_) rfl (by decide +kernel) (by decide +kernel) (by decide +kernel) (fun _ _ _ h => h) (Or.inl ⟨by rfl, ?_⟩) (by assumption) ?_; rotate_left; (focus ((intro w hSw; (try dsimp only at hSw); go_simp); (try (with_reducible rfl)); done)); (try simp only [List.getElem_toArray, List.getElem_cons_zero, List.getElem_cons_succ, Act.put, List.setIfInBounds_toArray, List.set_cons_zero, List.set_cons_succ]))
  (refine wpAnyH_ready (rs := [4]) (by decide +kernel) (by simp) ?_; refine AllReadyH.cons rfl (fun K hK => ?_) AllReadyH.nil; go_simp; (go_at_call 69; (with_reducible refine (CA.out _ _ _ HB HS0 hcp).mono ?_); rintro e w4 ⟨A1, c1, rfl, hA1, HO, hb⟩; replace HO : Hid (w4.ownsRow bs 125 3 (.slice A1 r.length c1) r.length (cellsA r)) := (by have h9 := HO; rw [← HBS.out] at h9; exact h9); replace HK := HK.up hb.hid; replace HR := HR.up hb.hid; replace HP := HP.up hb.hid; replace HB := HB.up hb.hid; replace hcell : w4.cell? ad = some (.slice D0 a.length c0) := (hb.cell hadl).trans hcell; have KS : Hid (∀ v : Value, (w4.setCell ⟨pp, 0, none⟩ v).cell? ⟨w.heap.size, 0, none⟩ = some (.slice A n c) ∧ (w4.setCell ⟨pp, 0, none⟩ v).cell? ⟨w.heap.size, 1, none⟩ = some (.slice B m d) ∧ (w4.setCell ⟨pp, 0, none⟩ v).cell? ad = some (.slice D0 a.length c0)) := fun v => ⟨(World.cell?_setCell_far _ _ _ _ hkp).trans HK.c0, (World.cell?_setCell_far _ _ _ _ hkp).trans HK.c1, (World.cell?_setCell_far _ _ _ _ hap).trans hcell⟩; clear hp_f0; have hp_f0 := HP.f0; have hp_0 := HP.c0); (try (go_wp2_with fail)); refine hK.out _ _ ?_ (fun hHeld => ?_); (focus ((try dsimp only); (first | (with_reducible exact ⟨HK.c0, HK.c1, hcell⟩) | exact KS.out _))); clear hK K; (try simp only [List.getElem_toArray, List.getElem_cons_zero, List.getElem_cons_succ, Act.put, List.setIfInBounds_toArray, List.set_cons_zero, List.set_cons_succ]))
  (refine wpAnyH_take (i := 5) (v := ?_) rfl (by decide +kernel) (by decide +kernel) (by decide +kernel) (fun _ _ _ h => h) (Or.inl ⟨by rfl, ?_⟩) (by assumption) ?_; rotate_left; (focus ((intro w hSw; (try dsimp only at hSw); go_simp); (try (with_reducible rfl)); done)); (try simp only [List.getElem_toArray, List.getElem_cons_zero, List.getElem_cons_succ, Act.put, List.setIfInBounds_toArray, List.set_cons_zero, List.set_cons_succ]))
  (refine wpAnyH_take (i := 6) (v := ?_) rfl (by decide +kernel) (by decide +kernel) (by decide +kernel) (fun _ _ _ h => h) (Or.inl ⟨by rfl, ?_⟩) (by assumption) ?_; rotate_left; (focus ((intro w hSw; (try dsimp only at hSw); go_simp); (try (with_reducible rfl)); done)); (try simp only [List.getElem_toArray, List.getElem_cons_zero, List.getElem_cons_succ, Act.put, List.setIfInBounds_toArray, List.set_cons_zero, List.set_cons_succ]))
  (refine wpAnyH_take (i := 7) (v := ?_) rfl (by decide +kernel) (by decide +kernel) (by decide +kernel) (fun _ _ _ h => h) (Or.inl ⟨by rfl, ?_⟩) (by assumption) ?_; rotate_left; (focus ((intro w hSw; (try dsimp only at hSw); go_simp); (try (with_reducible rfl)); done)); (try simp only [List.getElem_toArray, List.getElem_cons_zero, List.getElem_cons_succ, Act.put, List.setIfInBounds_toArray, List.set_cons_zero, List.set_cons_succ]))
  (refine wpAnyH_take (i := 8) (v := ?_) rfl (by decide +kernel) (by decide +kernel) (by decide +kernel) (fun _ _ _ h => h) (Or.inl ⟨by rfl, ?_⟩) (by assumption) ?_; rotate_left; (focus ((intro w hSw; (try dsimp only at hSw); go_simp); (try (with_reducible rfl)); done)); (try simp only [List.getElem_toArray, List.getElem_cons_zero, List.getElem_cons_succ, Act.put, List.setIfInBounds_toArray, List.set_cons_zero, List.set_cons_succ]))
  (refine wpAnyH_ready (rs := [9]) (by decide +kernel) (by simp) ?_; refine AllReadyH.cons rfl (fun K hK => ?_) AllReadyH.nil; go_simp; refine hK.out _ _ ?_ (fun hHeld => ?_); (focus ((try dsimp only); (first | (with_reducible exact ⟨HK.c0, HK.c1, hcell⟩) | exact KS.out _))); clear hK K; (try simp only [List.getElem_toArray, List.getElem_cons_zero, List.getElem_cons_succ, Act.put, List.setIfInBounds_toArray, List.set_cons_zero, List.set_cons_succ]))
  (refine wpAnyH_take (i := 10) (v := ?_) rfl (by decide +kernel) (by decide +kernel) (by decide +kernel) (fun _ _ _ h => h) (Or.inl ⟨by rfl, ?_⟩) (by assumption) ?_; rotate_left; (focus ((intro w hSw; (try dsimp only at hSw); go_simp); (try (with_reducible rfl)); done)); (try simp only [List.getElem_toArray, List.getElem_cons_zero, List.getElem_cons_succ, Act.put, List.setIfInBounds_toArray, List.set_cons_zero, List.set_cons_succ]))
  refine wpAnyH_done (by decide +kernel) ?_ _
  go_upto_region 8 with fail
  refine kwp_named ?_
  intro W5 hW5
  replace HP : At W5 pp [.slice A1 r.length c1, .slice none 0 0, .string ⟨#[49]⟩] := by rw [hW5]; exact HP.put (i := 0) (by simp) _
  replace HR : At W5 (w.heap.size + 1) [.slice none 0 0, .slice none 0 0, .string ⟨#[]⟩] := by rw [hW5]; exact HR.far hrp _
  replace HB : Bel w W5 := by rw [hW5]; exact Below.setCell HB hpw _
  replace HO : Hid (W5.ownsRow bs 125 3 (.slice A1 r.length c1) r.length (cellsA r)) := by rw [hW5]; exact ownsRow_setCell_below HO.out hpl _
  clear hW5 hp_f0 hp_0 KS hcell hadl hb HK CA HS0
  replace HR := HR.dr; replace HP := HP.dr; replace HB := HB.dr; replace HO : Hid (W5.drew.ownsRow bs 125 3 (.slice A1 r.length c1) r.length (cellsA r)) := HO
  refine wp_region_held_drew (S := fun w' => w'.cell? ⟨pp, 0, none⟩ = some (.slice A1 r.length c1) ∧ w'.cell? ⟨pp, 1, none⟩ = some (.slice none 0 0) ∧ w'.cell? ⟨pp, 2, none⟩ = some (.string ⟨#[49]⟩)) (by kernel_rfl) ?_ (fun hHeld => ?_)
  · exact ⟨HP.c0, HP.c1, HP.c2⟩
  have hr_f0 := HR.f0; have hr_f1 := HR.f1; have hr_f2 := HR.f2; have hr_0 := HR.c0; have hr_1 := HR.c1; have hr_2 := HR.c2; have hr_l := HR.lt
  have hrq : w.heap.size + 1 ≠ pp := fun e => hrp e.symm
  generalize W5.drew = Wd at *
  have KS : Hid (∀ x y z : Value, (((Wd.setCell ⟨w.heap.size + 1, 0, none⟩ x).setCell ⟨w.heap.size + 1, 1, none⟩ y).setCell ⟨w.heap.size + 1, 2, none⟩ z).cell? ⟨pp, 0, none⟩ = some (.slice A1 r.length c1) ∧ (((Wd.setCell ⟨w.heap.size + 1, 0, none⟩ x).setCell ⟨w.heap.size + 1, 1, none⟩ y).setCell ⟨w.heap.size + 1, 2, none⟩ z).cell? ⟨pp, 1, none⟩ = some (.slice none 0 0) ∧ (((Wd.setCell ⟨w.heap.size + 1, 0, none⟩ x).setCell ⟨w.heap.size + 1, 1, none⟩ y).setCell ⟨w.heap.size + 1, 2, none⟩ z).cell? ⟨pp, 2, none⟩ = some (.string ⟨#[49]⟩)) := fun x y z => by
    have h5 := ((HP.far hrq (i := 0) x).far hrq (i := 1) y).far hrq (i := 2) z
    exact ⟨h5.c0, h5.c1, h5.c2⟩
  (refine wpAnyH_take (i := 0) (v := ?_) rfl (by decide +kernel) (by decide +kernel) (by decide +kernel) (fun _ _ _ h => h) (Or.inl ⟨by rfl, ?_⟩) (by assumption) ?_; rotate_left; (focus ((intro w hSw; (try dsimp only at hSw); go_simp); (try (with_reducible rfl)); done)); (try simp only [List.getElem_toArray, List.getElem_cons_zero, List.getElem_cons_succ, Act.put, List.setIfInBounds_toArray, List.set_cons_zero, List.set_cons_succ]))
  (refine wpAnyH_take (i := 1) (v := ?_) rfl (by decide +kernel) (by decide +kernel) (by decide +kernel) (fun _ _ _ h => h) (Or.inl ⟨by rfl, ?_⟩) (by assumption) ?_; rotate_left; (focus ((intro w hSw; (try dsimp only at hSw); go_simp); (try (with_reducible rfl)); done)); (try simp only [List.getElem_toArray, List.getElem_cons_zero, List.getElem_cons_succ, Act.put, List.setIfInBounds_toArray, List.set_cons_zero, List.set_cons_succ]))
  (refine wpAnyH_take (i := 2) (v := ?_) rfl (by decide +kernel) (by decide +kernel) (by decide +kernel) (fun _ _ _ h => h) (Or.inl ⟨by rfl, ?_⟩) (by assumption) ?_; rotate_left; (focus ((intro w hSw; (try dsimp only at hSw); go_simp); (try (with_reducible rfl)); done)); (try simp only [List.getElem_toArray, List.getElem_cons_zero, List.getElem_cons_succ, Act.put, List.setIfInBounds_toArray, List.set_cons_zero, List.set_cons_succ]))
  (refine wpAnyH_take (i := 3) (v := ?_) rfl (by decide +kernel) (by decide +kernel) (by decide +kernel) (fun _ _ _ h => h) (Or.inl ⟨by rfl, ?_⟩) (by assumption) ?_; rotate_left; (focus ((intro w hSw; (try dsimp only at hSw); go_simp); (try (with_reducible rfl)); done)); (try simp only [List.getElem_toArray, List.getElem_cons_zero, List.getElem_cons_succ, Act.put, List.setIfInBounds_toArray, List.set_cons_zero, List.set_cons_succ]))
  (refine wpAnyH_take (i := 4) (v := ?_) rfl (by decide +kernel) (by decide +kernel) (by decide +kernel) (fun _ _ _ h => h) (Or.inl ⟨by rfl, ?_⟩) (by assumption) ?_; rotate_left; (focus ((intro w hSw; (try dsimp only at hSw); go_simp); (try (with_reducible rfl)); done)); (try simp only [List.getElem_toArray, List.getElem_cons_zero, List.getElem_cons_succ, Act.put, List.setIfInBounds_toArray, List.set_cons_zero, List.set_cons_succ]))
  (refine wpAnyH_take (i := 5) (v := ?_) rfl (by decide +kernel) (by decide +kernel) (by decide +kernel) (fun _ _ _ h => h) (Or.inl ⟨by rfl, ?_⟩) (by assumption) ?_; rotate_left; (focus ((intro w hSw; (try dsimp only at hSw); go_simp); (try (with_reducible rfl)); done)); (try simp only [List.getElem_toArray, List.getElem_cons_zero, List.getElem_cons_succ, Act.put, List.setIfInBounds_toArray, List.set_cons_zero, List.set_cons_succ]))
  (refine wpAnyH_take (i := 6) (v := ?_) rfl (by decide +kernel) (by decide +kernel) (by decide +kernel) (fun _ _ _ h => h) (Or.inl ⟨by rfl, ?_⟩) (by assumption) ?_; rotate_left; (focus ((intro w hSw; (try dsimp only at hSw); go_simp); (try (with_reducible rfl)); done)); (try simp only [List.getElem_toArray, List.getElem_cons_zero, List.getElem_cons_succ, Act.put, List.setIfInBounds_toArray, List.set_cons_zero, List.set_cons_succ]))
  (refine wpAnyH_take (i := 7) (v := ?_) rfl (by decide +kernel) (by decide +kernel) (by decide +kernel) (fun _ _ _ h => h) (Or.inl ⟨by rfl, ?_⟩) (by assumption) ?_; rotate_left; (focus ((intro w hSw; (try dsimp only at hSw); go_simp); (try (with_reducible rfl)); done)); (try simp only [List.getElem_toArray, List.getElem_cons_zero, List.getElem_cons_succ, Act.put, List.setIfInBounds_toArray, List.set_cons_zero, List.set_cons_succ]))
  (refine wpAnyH_take (i := 8) (v := ?_) rfl (by decide +kernel) (by decide +kernel) (by decide +kernel) (fun _ _ _ h => h) (Or.inl ⟨by rfl, ?_⟩) (by assumption) ?_; rotate_left; (focus ((intro w hSw; (try dsimp only at hSw); go_simp); (try (with_reducible rfl)); done)); (try simp only [List.getElem_toArray, List.getElem_cons_zero, List.getElem_cons_succ, Act.put, List.setIfInBounds_toArray, List.set_cons_zero, List.set_cons_succ]))
  (refine wpAnyH_take (i := 9) (v := ?_) rfl (by decide +kernel) (by decide +kernel) (by decide +kernel) (fun _ _ _ h => h) (Or.inl ⟨by rfl, ?_⟩) (by assumption) ?_; rotate_left; (focus ((intro w hSw; (try dsimp only at hSw); go_simp); (try (with_reducible rfl)); done)); (try simp only [List.getElem_toArray, List.getElem_cons_zero, List.getElem_cons_succ, Act.put, List.setIfInBounds_toArray, List.set_cons_zero, List.set_cons_succ]))
  (refine wpAnyH_take (i := 10) (v := ?_) rfl (by decide +kernel) (by decide +kernel) (by decide +kernel) (fun _ _ _ h => h) (Or.inl ⟨by rfl, ?_⟩) (by assumption) ?_; rotate_left; (focus ((intro w hSw; (try dsimp only at hSw); go_simp); (try (with_reducible rfl)); done)); (try simp only [List.getElem_toArray, List.getElem_cons_zero, List.getElem_cons_succ, Act.put, List.setIfInBounds_toArray, List.set_cons_zero, List.set_cons_succ]))
  (refine wpAnyH_take (i := 11) (v := ?_) rfl (by decide +kernel) (by decide +kernel) (by decide +kernel) (fun _ _ _ h => h) (Or.inl ⟨by rfl, ?_⟩) (by assumption) ?_; rotate_left; (focus ((intro w hSw; (try dsimp only at hSw); go_simp); (try (with_reducible rfl)); done)); (try simp only [List.getElem_toArray, List.getElem_cons_zero, List.getElem_cons_succ, Act.put, List.setIfInBounds_toArray, List.set_cons_zero, List.set_cons_succ]))
  (refine wpAnyH_take (i := 12) (v := ?_) rfl (by decide +kernel) (by decide +kernel) (by decide +kernel) (fun _ _ _ h => h) (Or.inl ⟨by rfl, ?_⟩) (by assumption) ?_; rotate_left; (focus ((intro w hSw; (try dsimp only at hSw); go_simp); (try (with_reducible rfl)); done)); (try simp only [List.getElem_toArray, List.getElem_cons_zero, List.getElem_cons_succ, Act.put, List.setIfInBounds_toArray, List.set_cons_zero, List.set_cons_succ]))
  (refine wpAnyH_take (i := 13) (v := ?_) rfl (by decide +kernel) (by decide +kernel) (by decide +kernel) (fun _ _ _ h => h) (Or.inl ⟨by rfl, ?_⟩) (by assumption) ?_; rotate_left; (focus ((intro w hSw; (try dsimp only at hSw); go_simp); (try (with_reducible rfl)); done)); (try simp only [List.getElem_toArray, List.getElem_cons_zero, List.getElem_cons_succ, Act.put, List.setIfInBounds_toArray, List.set_cons_zero, List.set_cons_succ]))
  (refine wpAnyH_ready (rs := [14]) (by decide +kernel) (by simp) ?_; refine AllReadyH.cons rfl (fun K hK => ?_) AllReadyH.nil; go_simp; refine hK.out _ _ ?_ (fun hHeld => ?_); (focus ((try dsimp only); (first | (with_reducible exact ⟨HP.c0, HP.c1, HP.c2⟩) | exact KS.out _ _ _))); clear hK K; (try simp only [List.getElem_toArray, List.getElem_cons_zero, List.getElem_cons_succ, Act.put, List.setIfInBounds_toArray, List.set_cons_zero, List.set_cons_succ]))
  (refine wpAnyH_take (i := 15) (v := ?_) rfl (by decide +kernel) (by decide +kernel) (by decide +kernel) (fun _ _ _ h => h) (Or.inl ⟨by rfl, ?_⟩) (by assumption) ?_; rotate_left; (focus ((intro w hSw; (try dsimp only at hSw); go_simp); (try (with_reducible rfl)); done)); (try simp only [List.getElem_toArray, List.getElem_cons_zero, List.getElem_cons_succ, Act.put, List.setIfInBounds_toArray, List.set_cons_zero, List.set_cons_succ]))
  refine wpAnyH_done (by decide +kernel) ?_ _
  go_wp2_with fail
  have hs : w.heap.size ≤ w.heap.size + 1 := Nat.le_succ _
  refine bodyPost_ret (v := .tuple #[.agg #[.slice A1 r.length c1, .slice none 0 0, .string ⟨#[49]⟩], .bool true]) (by simp [results, Tryz.results43, go_sem, hr_0, hr_1, hr_2, hr_l]) rfl ⟨A1, c1, none, 0, rfl, own_base (ownsRow_setCell_below (ownsRow_setCell_below (ownsRow_setCell_below HO.out hrl2 _) hrl2 _) hrl2 _) hwb, World.ownsRow_nil _ _ _ _, kbelow3 HB hs _ _ _⟩
set_option maxHeartbeats 8000000 in
theorem part_one_long (h : Ss w A names) (hn : n = names.length) (hl : n ≤ 1000000) (h' : Ss w B ps) (hm : m = ps.length) (hl' : m ≤ 1000000) (h2 : Ss w D l) (hj : j = l.length) (hjl : j ≤ 1000000) (hc : cutBy perB l = [a]) (hal : a.length ≤ 1000000) (hau : ∀ x ∈ a, x.size ≤ 2000000) (hps : ∀ x ∈ ps, x.size ≤ 2000000) {r : List AL} (hres : atomsL names ps a = some r) (hr : 8 < r.length) :
    Calls Tryz.prog 43 #[.agg #[.slice A n c, .slice B m d], .slice D j g] w (PartR w (partD names ps l)) := by
  obtain ⟨W1, hW1⟩ : ∃ X, X = (w.alloc (.cells #[.slice A n c, .slice B m d] 48)).alloc (.cells #[.slice none 0 0, .slice none 0 0, .string ⟨#[]⟩] 86) := ⟨_, rfl⟩
  have HK : At W1 w.heap.size [.slice A n c, .slice B m d] := by rw [hW1]; exact (at_new0 _ _ _).al _
  have HR : At W1 (w.heap.size + 1) [.slice none 0 0, .slice none 0 0, .string ⟨#[]⟩] := by rw [hW1]; exact at_new1 _ _ _ _
  have HB : Bel w W1 := by rw [hW1]; exact ((Bel.refl w).al _).al _
  have HB0 : Hid (Below w.heap.size w W1) := HB
  have CC : Hid (Calls Tryz.prog 42 #[.slice D j g, .string ⟨#[112, 101, 114]⟩] W1 (ListsC W1 [a])) := hc ▸ rcut_any (t := perB) (h2.up HB0) hj hjl
  have CA : Hid (∀ (W' : World) (D0 : Option Addr) (c0 : Nat), Bel w W' → Ss W' D0 a → a.length ≤ c0 → Calls Tryz.prog 69 #[.agg #[.slice A n c, .slice B m d], .slice D0 a.length c0] W' (AtomsR W' (some r))) := fun W' D0 c0 hb hs hg =>
    ratoms_any (h.up hb.hid) hn hl (h'.up hb.hid) hm hl' hs rfl hg hal hau hps hres
  have HV : partD names ps l = none := by unfold partD; rw [hc, partC_one, hres]; show (if 0 < r.length ∧ r.length ≤ 8 then some (r, ([] : List AL), oneB) else none) = _; rw [if_neg (by omega)]
  have HW := khide hW1
  rw [HV]
  clear hW1 HV h2 hj hjl h h' hn hm hl hl' hc hal hau hps hres HB0
  have e1 : decide ((0 : Int) < (r.length : Int)) = true := decide_eq_true (by omega)
  have e2 : decide (0 < r.length) = true := decide_eq_true (by omega)
  have e3 : decide ((r.length : Int) ≤ 8) = false := decide_eq_false (by omega)
  have e4 : decide (r.length ≤ 8) = false := decide_eq_false (by omega)
  clear hr
  go_enter Tryz.func43, Tryz.ntmps43
  go_upto_region 1 with fail
  rw [← HW.out]
  go_upto_region 6 with (first | (go_at_call 42; (with_reducible refine (CC.out).mono ?_); rintro e w2 ⟨ad, cc, rfl, hss, hcap, hb2⟩; replace HK := HK.up hb2; replace HR := HR.up hb2; replace HB := HB.up hb2) | fail)
  obtain ⟨ad', D0, c0, e0, hab, hc0, hs0, -⟩ := hss.out.at_ (k := 0) (by simp)
  injection e0 with e0
  subst e0
  have hcp : a.length ≤ c0 := hcap 0 _ _ _ (by simp) hc0
  rw [addr_zero] at hc0
  replace hc0 : w2.cell? ad = some (.slice D0 a.length c0) := hc0
  have HS0 : Ss w2 D0 a := hs0
  have hkl := HK.lt
  have hrl := HR.lt
  refine kwp_named ?_
  intro W3 hW3
  have HP : At W3 w2.heap.size [.slice none 0 0, .slice none 0 0, .string ⟨#[49]⟩] := by rw [hW3]; exact at_new0 _ _ _
  have HBC : Hid (Bel w2 W3) := by rw [hW3]; exact (Bel.refl w2).al _
  have hcell : W3.cell? ad = some (.slice D0 a.length c0) := (HBC.out.cell hab).trans hc0
  replace HS0 : Ss W3 D0 a := HS0.up HBC.out
  replace HB : Bel w W3 := HB.up HBC.out
  replace HK := HK.up HBC.out
  replace HR := HR.up HBC.out
  have hadw : ad.block < W3.heap.size := Nat.lt_of_lt_of_le hab HBC.out.size
  have hpw : w.heap.size ≤ w2.heap.size := Nat.le_of_lt hkl
  have hap : ad.block ≠ w2.heap.size := Nat.ne_of_lt hab
  have hkp : w2.heap.size ≠ w.heap.size := Nat.ne_of_gt hkl
  have hrp : w2.heap.size ≠ w.heap.size + 1 := Nat.ne_of_gt hrl
  replace hap : w2.heap.size ≠ ad.block := fun e => hap e.symm
  obtain ⟨pp, hpp⟩ : ∃ p, p = w2.heap.size := ⟨_, rfl⟩
  rw [← hpp] at HP hap hkp hrp hpw
  rw [← hpp]
  clear hW3 hpp hss hcap hc0 hs0 hab CC HBC hkl hrl
  replace HK := HK.dr; replace HR := HR.dr; replace HP := HP.dr; replace HB := HB.dr; replace HS0 := HS0.dr
  refine wp_region_held_drew (S := fun w' => w'.cell? ⟨w.heap.size, 0, none⟩ = some (.slice A n c) ∧ w'.cell? ⟨w.heap.size, 1, none⟩ = some (.slice B m d) ∧ w'.cell? ad = some (.slice D0 a.length c0)) (by kernel_rfl) ?_ (fun hHeld => ?_)
  · exact ⟨HK.c0, HK.c1, hcell⟩
  have hadl : ad.block < W3.drew.heap.size := hadw
  replace hcell : W3.drew.cell? ad = some (.slice D0 a.length c0) := hcell
  have hp_f0 := HP.f0
  generalize W3.drew = Wd at *
  have hpl := HP.lt
  have hrl2 := HR.lt
  have hwb := HB.size
  obtain ⟨bs, hbs⟩ : ∃ b, b = Wd.heap.size := ⟨_, rfl⟩
  rw [← hbs] at hpl hrl2 hwb
  have HBS := khide hbs
  clear hbs
  (refine wpAnyH_take (i := 0) (v := ?_) rfl (by decide +kernel) (by decide +kernel) (by decide +kernel) (fun _ _ _ h => h) (Or.inl ⟨by rfl, ?_⟩) (by assumption) ?_; rotate_left; (focus ((intro w hSw; (try dsimp only at hSw); go_simp); (try (with_reducible rfl)); done)); (try simp only [List.getElem_toArray, List.getElem_cons_zero, List.getElem_cons_succ, Act.put, List.setIfInBounds_toArray, List.set_cons_zero, List.set_cons_succ]))
  (refine wpAnyH_take (i := 1) (v := ?_) rfl (by decide +kernel) (by decide +kernel) (by decide +kernel) (fun _ _ _ h => h) (Or.inl ⟨by rfl, ?_⟩) (by assumption) ?_; rotate_left; (focus ((intro w hSw; (try dsimp only at hSw); go_simp); (try (with_reducible rfl)); done)); (try simp only [List.getElem_toArray, List.getElem_cons_zero, List.getElem_cons_succ, Act.put, List.setIfInBounds_toArray, List.set_cons_zero, List.set_cons_succ]))
  (refine wpAnyH_take (i := 2) (v := ?_) rfl (by decide +kernel) (by decide +kernel) (by decide +kernel) (fun _ _ _ h => h) (Or.inl ⟨by rfl, ?_⟩) (by assumption) ?_; rotate_left; (focus ((intro w hSw; (try dsimp only at hSw); go_simp); (try (with_reducible rfl)); done)); (try simp only [List.getElem_toArray, List.getElem_cons_zero, List.getElem_cons_succ, Act.put, List.setIfInBounds_toArray, List.set_cons_zero, List.set_cons_succ]))
  (refine wpAnyH_take (i := 3) (v := ?_) rfl (by decide +kernel) (by decide +kernel) (by decide +kernel) (fun _ _ _ h => h) (Or.inl ⟨by rfl, ?_⟩) (by assumption) ?_; rotate_left; (focus ((intro w hSw; (try dsimp only at hSw); go_simp); (try (with_reducible rfl)); done)); (try simp only [List.getElem_toArray, List.getElem_cons_zero, List.getElem_cons_succ, Act.put, List.setIfInBounds_toArray, List.set_cons_zero, List.set_cons_succ]))
  (refine wpAnyH_ready (rs := [4]) (by decide +kernel) (by simp) ?_; refine AllReadyH.cons rfl (fun K hK => ?_) AllReadyH.nil; go_simp; (go_at_call 69; (with_reducible refine (CA.out _ _ _ HB HS0 hcp).mono ?_); rintro e w4 ⟨A1, c1, rfl, hA1, HO, hb⟩; replace HO : Hid (w4.ownsRow bs 125 3 (.slice A1 r.length c1) r.length (cellsA r)) := (by have h9 := HO; rw [← HBS.out] at h9; exact h9); replace HK := HK.up hb.hid; replace HR := HR.up hb.hid; replace HP := HP.up hb.hid; replace HB := HB.up hb.hid; replace hcell : w4.cell? ad = some (.slice D0 a.length c0) := (hb.cell hadl).trans hcell; have KS : Hid (∀ v : Value, (w4.setCell ⟨pp, 0, none⟩ v).cell? ⟨w.heap.size, 0, none⟩ = some (.slice A n c) ∧ (w4.setCell ⟨pp, 0, none⟩ v).cell? ⟨w.heap.size, 1, none⟩ = some (.slice B m d) ∧ (w4.setCell ⟨pp, 0, none⟩ v).cell? ad = some (.slice D0 a.length c0)) := fun v => ⟨(World.cell?_setCell_far _ _ _ _ hkp).trans HK.c0, (World.cell?_setCell_far _ _ _ _ hkp).trans HK.c1, (World.cell?_setCell_far _ _ _ _ hap).trans hcell⟩; clear hp_f0; have hp_f0 := HP.f0; have hp_0 := HP.c0); (try (go_wp2_with fail)); refine hK.out _ _ ?_ (fun hHeld => ?_); (focus ((try dsimp only); (first | (with_reducible exact ⟨HK.c0, HK.c1, hcell⟩) | exact KS.out _))); clear hK K; (try simp only [List.getElem_toArray, List.getElem_cons_zero, List.getElem_cons_succ, Act.put, List.setIfInBounds_toArray, List.set_cons_zero, List.set_cons_succ]))
  (refine wpAnyH_take (i := 5) (v := ?_) rfl (by decide +kernel) (by decide +kernel) (by decide +kernel) (fun _ _ _ h => h) (Or.inl ⟨by rfl, ?_⟩) (by assumption) ?_; rotate_left; (focus ((intro w hSw; (try dsimp only at hSw); go_simp); (try (with_reducible rfl)); done)); (try simp only [List.getElem_toArray, List.getElem_cons_zero, List.getElem_cons_succ, Act.put, List.setIfInBounds_toArray, List.set_cons_zero, List.set_cons_succ]))
  (refine wpAnyH_take (i := 6) (v := ?_) rfl (by decide +kernel) (by decide +kernel) (by decide +kernel) (fun _ _ _ h => h) (Or.inl ⟨by rfl, ?_⟩) (by assumption) ?_; rotate_left; (focus ((intro w hSw; (try dsimp only at hSw); go_simp); (try (with_reducible rfl)); done)); (try simp only [List.getElem_toArray, List.getElem_cons_zero, List.getElem_cons_succ, Act.put, List.setIfInBounds_toArray, List.set_cons_zero, List.set_cons_succ]))
  (refine wpAnyH_take (i := 7) (v := ?_) rfl (by decide +kernel) (by decide +kernel) (by decide +kernel) (fun _ _ _ h => h) (Or.inl ⟨by rfl, ?_⟩) (by assumption) ?_; rotate_left; (focus ((intro w hSw; (try dsimp only at hSw); go_simp); (try (with_reducible rfl)); done)); (try simp only [List.getElem_toArray, List.getElem_cons_zero, List.getElem_cons_succ, Act.put, List.setIfInBounds_toArray, List.set_cons_zero, List.set_cons_succ]))
  (refine wpAnyH_take (i := 8) (v := ?_) rfl (by decide +kernel) (by decide +kernel) (by decide +kernel) (fun _ _ _ h => h) (Or.inl ⟨by rfl, ?_⟩) (by assumption) ?_; rotate_left; (focus ((intro w hSw; (try dsimp only at hSw); go_simp); (try (with_reducible rfl)); done)); (try simp only [List.getElem_toArray, List.getElem_cons_zero, List.getElem_cons_succ, Act.put, List.setIfInBounds_toArray, List.set_cons_zero, List.set_cons_succ]))
  (refine wpAnyH_ready (rs := [9]) (by decide +kernel) (by simp) ?_; refine AllReadyH.cons rfl (fun K hK => ?_) AllReadyH.nil; go_simp; refine hK.out _ _ ?_ (fun hHeld => ?_); (focus ((try dsimp only); (first | (with_reducible exact ⟨HK.c0, HK.c1, hcell⟩) | exact KS.out _))); clear hK K; (try simp only [List.getElem_toArray, List.getElem_cons_zero, List.getElem_cons_succ, Act.put, List.setIfInBounds_toArray, List.set_cons_zero, List.set_cons_succ]))
  (refine wpAnyH_take (i := 10) (v := ?_) rfl (by decide +kernel) (by decide +kernel) (by decide +kernel) (fun _ _ _ h => h) (Or.inl ⟨by rfl, ?_⟩) (by assumption) ?_; rotate_left; (focus ((intro w hSw; (try dsimp only at hSw); go_simp); (try (with_reducible rfl)); done)); (try simp only [List.getElem_toArray, List.getElem_cons_zero, List.getElem_cons_succ, Act.put, List.setIfInBounds_toArray, List.set_cons_zero, List.set_cons_succ]))
  refine wpAnyH_done (by decide +kernel) ?_ _
  go_upto_region 8 with fail
  refine kwp_named ?_
  intro W5 hW5
  replace HP : At W5 pp [.slice A1 r.length c1, .slice none 0 0, .string ⟨#[49]⟩] := by rw [hW5]; exact HP.put (i := 0) (by simp) _
  replace HR : At W5 (w.heap.size + 1) [.slice none 0 0, .slice none 0 0, .string ⟨#[]⟩] := by rw [hW5]; exact HR.far hrp _
  replace HB : Bel w W5 := by rw [hW5]; exact Below.setCell HB hpw _
  replace HO : Hid (W5.ownsRow bs 125 3 (.slice A1 r.length c1) r.length (cellsA r)) := by rw [hW5]; exact ownsRow_setCell_below HO.out hpl _
  clear hW5 hp_f0 hp_0 KS hcell hadl hb HK CA HS0
  replace HR := HR.dr; replace HP := HP.dr; replace HB := HB.dr; replace HO : Hid (W5.drew.ownsRow bs 125 3 (.slice A1 r.length c1) r.length (cellsA r)) := HO
  refine wp_region_held_drew (S := fun w' => w'.cell? ⟨pp, 0, none⟩ = some (.slice A1 r.length c1) ∧ w'.cell? ⟨pp, 1, none⟩ = some (.slice none 0 0) ∧ w'.cell? ⟨pp, 2, none⟩ = some (.string ⟨#[49]⟩)) (by kernel_rfl) ?_ (fun hHeld => ?_)
  · exact ⟨HP.c0, HP.c1, HP.c2⟩
  have hr_f0 := HR.f0; have hr_f1 := HR.f1; have hr_f2 := HR.f2; have hr_0 := HR.c0; have hr_1 := HR.c1; have hr_2 := HR.c2; have hr_l := HR.lt
  have hrq : w.heap.size + 1 ≠ pp := fun e => hrp e.symm
  generalize W5.drew = Wd at *
  have KS : Hid (∀ x y z : Value, (((Wd.setCell ⟨w.heap.size + 1, 0, none⟩ x).setCell ⟨w.heap.size + 1, 1, none⟩ y).setCell ⟨w.heap.size + 1, 2, none⟩ z).cell? ⟨pp, 0, none⟩ = some (.slice A1 r.length c1) ∧ (((Wd.setCell ⟨w.heap.size + 1, 0, none⟩ x).setCell ⟨w.heap.size + 1, 1, none⟩ y).setCell ⟨w.heap.size + 1, 2, none⟩ z).cell? ⟨pp, 1, none⟩ = some (.slice none 0 0) ∧ (((Wd.setCell ⟨w.heap.size + 1, 0, none⟩ x).setCell ⟨w.heap.size + 1, 1, none⟩ y).setCell ⟨w.heap.size + 1, 2, none⟩ z).cell? ⟨pp, 2, none⟩ = some (.string ⟨#[49]⟩)) := fun x y z => by
    have h5 := ((HP.far hrq (i := 0) x).far hrq (i := 1) y).far hrq (i := 2) z
    exact ⟨h5.c0, h5.c1, h5.c2⟩
  (refine wpAnyH_take (i := 0) (v := ?_) rfl (by decide +kernel) (by decide +kernel) (by decide +kernel) (fun _ _ _ h => h) (Or.inl ⟨by rfl, ?_⟩) (by assumption) ?_; rotate_left; (focus ((intro w hSw; (try dsimp only at hSw); go_simp); (try (with_reducible rfl)); done)); (try simp only [List.getElem_toArray, List.getElem_cons_zero, List.getElem_cons_succ, Act.put, List.setIfInBounds_toArray, List.set_cons_zero, List.set_cons_succ]))
  (refine wpAnyH_take (i := 1) (v := ?_) rfl (by decide +kernel) (by decide +kernel) (by decide +kernel) (fun _ _ _ h => h) (Or.inl ⟨by rfl, ?_⟩) (by assumption) ?_; rotate_left; (focus ((intro w hSw; (try dsimp only at hSw); go_simp); (try (with_reducible rfl)); done)); (try simp only [List.getElem_toArray, List.getElem_cons_zero, List.getElem_cons_succ, Act.put, List.setIfInBounds_toArray, List.set_cons_zero, List.set_cons_succ]))
  (refine wpAnyH_take (i := 2) (v := ?_) rfl (by decide +kernel) (by decide +kernel) (by decide +kernel) (fun _ _ _ h => h) (Or.inl ⟨by rfl, ?_⟩) (by assumption) ?_; rotate_left; (focus ((intro w hSw; (try dsimp only at hSw); go_simp); (try (with_reducible rfl)); done)); (try simp only [List.getElem_toArray, List.getElem_cons_zero, List.getElem_cons_succ, Act.put, List.setIfInBounds_toArray, List.set_cons_zero, List.set_cons_succ]))
  (refine wpAnyH_take (i := 3) (v := ?_) rfl (by decide +kernel) (by decide +kernel) (by decide +kernel) (fun _ _ _ h => h) (Or.inl ⟨by rfl, ?_⟩) (by assumption) ?_; rotate_left; (focus ((intro w hSw; (try dsimp only at hSw); go_simp); (try (with_reducible rfl)); done)); (try simp only [List.getElem_toArray, List.getElem_cons_zero, List.getElem_cons_succ, Act.put, List.setIfInBounds_toArray, List.set_cons_zero, List.set_cons_succ]))
  (refine wpAnyH_take (i := 4) (v := ?_) rfl (by decide +kernel) (by decide +kernel) (by decide +kernel) (fun _ _ _ h => h) (Or.inl ⟨by rfl, ?_⟩) (by assumption) ?_; rotate_left; (focus ((intro w hSw; (try dsimp only at hSw); go_simp); (try (with_reducible rfl)); done)); (try simp only [List.getElem_toArray, List.getElem_cons_zero, List.getElem_cons_succ, Act.put, List.setIfInBounds_toArray, List.set_cons_zero, List.set_cons_succ]))
  (refine wpAnyH_take (i := 5) (v := ?_) rfl (by decide +kernel) (by decide +kernel) (by decide +kernel) (fun _ _ _ h => h) (Or.inl ⟨by rfl, ?_⟩) (by assumption) ?_; rotate_left; (focus ((intro w hSw; (try dsimp only at hSw); go_simp); (try (with_reducible rfl)); done)); (try simp only [List.getElem_toArray, List.getElem_cons_zero, List.getElem_cons_succ, Act.put, List.setIfInBounds_toArray, List.set_cons_zero, List.set_cons_succ]))
  (refine wpAnyH_take (i := 6) (v := ?_) rfl (by decide +kernel) (by decide +kernel) (by decide +kernel) (fun _ _ _ h => h) (Or.inl ⟨by rfl, ?_⟩) (by assumption) ?_; rotate_left; (focus ((intro w hSw; (try dsimp only at hSw); go_simp); (try (with_reducible rfl)); done)); (try simp only [List.getElem_toArray, List.getElem_cons_zero, List.getElem_cons_succ, Act.put, List.setIfInBounds_toArray, List.set_cons_zero, List.set_cons_succ]))
  (refine wpAnyH_take (i := 7) (v := ?_) rfl (by decide +kernel) (by decide +kernel) (by decide +kernel) (fun _ _ _ h => h) (Or.inl ⟨by rfl, ?_⟩) (by assumption) ?_; rotate_left; (focus ((intro w hSw; (try dsimp only at hSw); go_simp); (try (with_reducible rfl)); done)); (try simp only [List.getElem_toArray, List.getElem_cons_zero, List.getElem_cons_succ, Act.put, List.setIfInBounds_toArray, List.set_cons_zero, List.set_cons_succ]))
  (refine wpAnyH_take (i := 8) (v := ?_) rfl (by decide +kernel) (by decide +kernel) (by decide +kernel) (fun _ _ _ h => h) (Or.inl ⟨by rfl, ?_⟩) (by assumption) ?_; rotate_left; (focus ((intro w hSw; (try dsimp only at hSw); go_simp); (try (with_reducible rfl)); done)); (try simp only [List.getElem_toArray, List.getElem_cons_zero, List.getElem_cons_succ, Act.put, List.setIfInBounds_toArray, List.set_cons_zero, List.set_cons_succ]))
  (refine wpAnyH_take (i := 9) (v := ?_) rfl (by decide +kernel) (by decide +kernel) (by decide +kernel) (fun _ _ _ h => h) (Or.inl ⟨by rfl, ?_⟩) (by assumption) ?_; rotate_left; (focus ((intro w hSw; (try dsimp only at hSw); go_simp); (try (with_reducible rfl)); done)); (try simp only [List.getElem_toArray, List.getElem_cons_zero, List.getElem_cons_succ, Act.put, List.setIfInBounds_toArray, List.set_cons_zero, List.set_cons_succ]))
  (refine wpAnyH_take (i := 10) (v := ?_) rfl (by decide +kernel) (by decide +kernel) (by decide +kernel) (fun _ _ _ h => h) (Or.inl ⟨by rfl, ?_⟩) (by assumption) ?_; rotate_left; (focus ((intro w hSw; (try dsimp only at hSw); go_simp); (try (with_reducible rfl)); done)); (try simp only [List.getElem_toArray, List.getElem_cons_zero, List.getElem_cons_succ, Act.put, List.setIfInBounds_toArray, List.set_cons_zero, List.set_cons_succ]))
  (refine wpAnyH_take (i := 11) (v := ?_) rfl (by decide +kernel) (by decide +kernel) (by decide +kernel) (fun _ _ _ h => h) (Or.inl ⟨by rfl, ?_⟩) (by assumption) ?_; rotate_left; (focus ((intro w hSw; (try dsimp only at hSw); go_simp); (try (with_reducible rfl)); done)); (try simp only [List.getElem_toArray, List.getElem_cons_zero, List.getElem_cons_succ, Act.put, List.setIfInBounds_toArray, List.set_cons_zero, List.set_cons_succ]))
  (refine wpAnyH_take (i := 12) (v := ?_) rfl (by decide +kernel) (by decide +kernel) (by decide +kernel) (fun _ _ _ h => h) (Or.inl ⟨by rfl, ?_⟩) (by assumption) ?_; rotate_left; (focus ((intro w hSw; (try dsimp only at hSw); go_simp); (try (with_reducible rfl)); done)); (try simp only [List.getElem_toArray, List.getElem_cons_zero, List.getElem_cons_succ, Act.put, List.setIfInBounds_toArray, List.set_cons_zero, List.set_cons_succ]))
  (refine wpAnyH_take (i := 13) (v := ?_) rfl (by decide +kernel) (by decide +kernel) (by decide +kernel) (fun _ _ _ h => h) (Or.inl ⟨by rfl, ?_⟩) (by assumption) ?_; rotate_left; (focus ((intro w hSw; (try dsimp only at hSw); go_simp); (try (with_reducible rfl)); done)); (try simp only [List.getElem_toArray, List.getElem_cons_zero, List.getElem_cons_succ, Act.put, List.setIfInBounds_toArray, List.set_cons_zero, List.set_cons_succ]))
  (refine wpAnyH_ready (rs := [14]) (by decide +kernel) (by simp) ?_; refine AllReadyH.cons rfl (fun K hK => ?_) AllReadyH.nil; go_simp; refine hK.out _ _ ?_ (fun hHeld => ?_); (focus ((try dsimp only); (first | (with_reducible exact ⟨HP.c0, HP.c1, HP.c2⟩) | exact KS.out _ _ _))); clear hK K; (try simp only [List.getElem_toArray, List.getElem_cons_zero, List.getElem_cons_succ, Act.put, List.setIfInBounds_toArray, List.set_cons_zero, List.set_cons_succ]))
  (refine wpAnyH_take (i := 15) (v := ?_) rfl (by decide +kernel) (by decide +kernel) (by decide +kernel) (fun _ _ _ h => h) (Or.inl ⟨by rfl, ?_⟩) (by assumption) ?_; rotate_left; (focus ((intro w hSw; (try dsimp only at hSw); go_simp); (try (with_reducible rfl)); done)); (try simp only [List.getElem_toArray, List.getElem_cons_zero, List.getElem_cons_succ, Act.put, List.setIfInBounds_toArray, List.set_cons_zero, List.set_cons_succ]))
  refine wpAnyH_done (by decide +kernel) ?_ _
  go_wp2_with fail
  have hs : w.heap.size ≤ w.heap.size + 1 := Nat.le_succ _
  refine bodyPost_ret (v := .tuple #[.agg #[.slice A1 r.length c1, .slice none 0 0, .string ⟨#[49]⟩], .bool false]) (by simp [results, Tryz.results43, go_sem, hr_0, hr_1, hr_2, hr_l]) rfl ⟨_, _, _, _, _, _, _, rfl, kbelow3 HB hs _ _ _⟩
end
end Go.Proofs.YthdpojkeceoiiaaGreatDoor
