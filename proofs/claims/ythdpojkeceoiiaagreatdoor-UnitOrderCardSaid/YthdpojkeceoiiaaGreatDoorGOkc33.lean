/- Several texts in one, each with its own sentence and conditions. -/
import Derived.Test.YthdpojkeceoiiaaGreatDoorGOkc32
import Derived.Test.YthdpojkeceoiiaaGreatDoorGOkc28
import Derived.Deep.CutRange
import Derived.Deep.LoopGhost
section
/- The document's own ParseUnit. Conditions: names and prefixes that fit. -/
open Go.RowKit
set_option maxRecDepth 100000
namespace Go.Proofs.YthdpojkeceoiiaaGreatDoor
def UnitRd (W : World) (r : Except Int (List PL)) (e : Ending) (w' : World) : Prop := match r with
  | .error v => e = .returned (.tuple #[.slice none 0 0, .int .i64 v]) ∧ Bel W w'
  | .ok ps => ∃ R c z, Hid (z = ps.length) ∧ e = .returned (.tuple #[.slice R z c, .int .i64 0]) ∧ Ps w' R ps ∧ Bel W w'
abbrev RPart (w : World) (A B : Option Addr) (n c m d : Nat) (l : List ByteArray) (r : Option PL) : Prop :=
  ∀ (W : World) (D : Option Addr) (j g : Nat), Bel w W → Ss W D l → j = l.length → Calls Tryz.prog 43 #[.agg #[.slice A n c, .slice B m d], .slice D j g] W (PartR W r)
section
variable {A B : Option Addr} {n c m d : Nat} {names ps : List ByteArray} {s : ByteArray} {w : World}
set_option maxHeartbeats 4000000 in
theorem runit_no {v : Int} (hv : v = 11 ∨ v = 2) (hs : ∀ W, Calls Tryz.prog 41 #[.string s] W (SplitNo W v)) : Calls Tryz.prog 16 #[.agg #[.slice A n c, .slice B m d], .string s] w (UnitRd w (.error v)) := by
  have CS := khide hs
  have d1 : (v != 0) = true := by rcases hv with rfl | rfl <;> rfl
  have d0 : (v == 0) = false := by rcases hv with rfl | rfl <;> rfl
  have HB := Bel.refl w
  clear hs hv
  go_enter Tryz.func16, Tryz.ntmps16
  go_wp2_with (first | (go_at_call 41; (with_reducible refine (CS.out _).mono ?_); rintro e w2 ⟨rfl, hb2⟩) | fail)
  go_ret2
  exact ⟨rfl, (HB.al _).up hb2⟩
set_option maxHeartbeats 4000000 in
theorem runit_many {xs : List ByteArray} {css : List (List ByteArray)} (hx : xs.length ≤ 1000) (hs : ∀ W, Calls Tryz.prog 41 #[.string s] W (SplitOk W xs)) (hc : cutBy andB xs = css) (hl : 4 < css.length) : Calls Tryz.prog 16 #[.agg #[.slice A n c, .slice B m d], .string s] w (UnitRd w (.error 2)) := by
  have CS := khide hs
  have CC : Hid (∀ (W : World) (ad : Addr) (c : Nat), Ss W (some ad) xs → Calls Tryz.prog 42 #[.slice (some ad) xs.length c, .string ⟨#[97, 110, 100]⟩] W (ListsC W css)) := fun W ad c h => hc ▸ rcut_any (t := andB) h rfl (by omega)
  have d0 : decide ((4 : Int) < (css.length : Int)) = true := decide_eq_true (by omega)
  have d1 : decide (4 < css.length) = true := decide_eq_true (by omega)
  have HB := Bel.refl w
  clear hs hc hx
  go_enter Tryz.func16, Tryz.ntmps16
  go_wp2_with (first | (go_at_call 41; (with_reducible refine (CS.out _).mono ?_); rintro e w2 ⟨ad, k, rfl, hk, HS, hb2⟩) | (go_at_call 42; (with_reducible refine (CC.out _ _ _ HS).mono ?_); rintro e w3 ⟨ad3, k3, rfl, hss, hcap, hb3⟩) | fail)
  go_ret2
  exact ⟨rfl, ((HB.al _).up hb2).up hb3⟩
set_option maxHeartbeats 8000000 in
theorem runit_rest {xs : List ByteArray} {css : List (List ByteArray)} (hx : xs.length ≤ 1000) (hs : ∀ W, Calls Tryz.prog 41 #[.string s] W (SplitOk W xs)) (hc : cutBy andB xs = css) (hl : css.length ≤ 4) (hp : ∀ l ∈ css, RPart w A B n c m d l (partD names ps l)) :
    Calls Tryz.prog 16 #[.agg #[.slice A n c, .slice B m d], .string s] w (UnitRd w (resOf (partsL names ps css))) := by
  obtain ⟨res, hres⟩ : ∃ x, resOf (partsL names ps css) = x := ⟨_, rfl⟩
  rw [hres]
  have HRES := khide hres
  clear hres
  obtain ⟨W1, hW1⟩ : ∃ X, X = w.alloc (.cells #[.slice A n c, .slice B m d] 48) := ⟨_, rfl⟩
  have HK : At W1 w.heap.size [.slice A n c, .slice B m d] := by rw [hW1]; exact at_new0 _ _ _
  have HB : Bel w W1 := by rw [hW1]; exact (Bel.refl w).al _
  have CS := khide hs
  have CP := khide hp
  obtain ⟨z, hz⟩ : ∃ z, css.length = z := ⟨_, rfl⟩
  have HZ := khide hz
  rw [hz] at hl
  have CC : Hid (∀ (W : World) (ad : Addr) (c : Nat), Ss W (some ad) xs → Calls Tryz.prog 42 #[.slice (some ad) xs.length c, .string ⟨#[97, 110, 100]⟩] W (fun e w' => ∃ ad c, e = .returned (.slice (some ad) z c) ∧ Sss w' (some ad) css ∧ Caps w' ad css ∧ Hid (Below W.heap.size W w'))) := fun W ad c h => by
    have h9 := rcut_any (t := andB) (c := c) h rfl (by omega)
    rw [hc] at h9
    unfold ListsC at h9
    rwa [hz] at h9
  obtain ⟨i0, hi, hz0, hz1, hz2⟩ := info_parts infoPartR
  have J0 := khide hi; have Y0 := khide hz0; have Y1 := khide hz1; have Y2 := khide hz2
  have HW := khide hW1
  have d0 : decide ((4 : Int) < (z : Int)) = false := decide_eq_false (by omega)
  have d1 : decide (4 < z) = false := decide_eq_false (by omega)
  have d2 : ¬ 4 < z := by omega
  clear hs hW1 hc hx hz hp hi hz0 hz1 hz2
  go_enter Tryz.func16, Tryz.ntmps16
  go_upto_region 1 with fail
  rw [← HW.out]
  go_upto_region 7 with (first | (go_at_call 41; (with_reducible refine (CS.out _).mono ?_); rintro e w2 ⟨ad, k, rfl, hk, HS, hb2⟩; replace HK := HK.up hb2; replace HB := HB.up hb2) | (go_at_call 42; (with_reducible refine (CC.out _ _ _ HS).mono ?_); rintro e w3 ⟨ad3, k3, rfl, hss, hcap, hb3⟩; replace HK := HK.up hb3; replace HB := HB.up hb3) | fail)
  clear hb2 hb3 hk HS CC CS HW W1
  have HBK : Hid (w.heap.size < w3.heap.size) := HK.lt
  go_wp2_with fail
  go_loopw [9, 10] (fun rv iv wr => ∃ (k cp : Nat) (R : Option Addr) (r : List PL) (cs : List Value), k ≤ z ∧ iv = .int .i64 (k : Int) ∧ rv = .slice R k cp ∧ Hid (r.length = k) ∧ Hid (partsL names ps (css.take k) = some r) ∧ Hid (OwnP w3.heap.size wr (.slice R k cp) r cs) ∧ Hid (Below w3.heap.size w3 wr)) (fun _ iv _ => z - (intOf iv).toNat)
  case atStart => exact ⟨0, 0, none, [], [], Nat.zero_le _, rfl, rfl, rfl, rfl, OwnP.nil, Below.refl _ _⟩
  case round =>
    obtain ⟨k, cp, R, r, cs, hk, rfl, rfl, hrk, HV, HO, HB3⟩ := hrel
    have HKr := HK.up HB3
    have HBr : Bel w wr := HB.up HB3
    by_cases hlt : k < z
    · obtain ⟨a, ha⟩ : ∃ a, css[k]? = some a := ⟨css[k]'(by rw [HZ.out]; exact hlt), List.getElem?_eq_getElem _⟩
      have hx : k < css.length := by rw [HZ.out]; exact hlt
      have hax : css[k] = a := by
        have := List.getElem?_eq_getElem hx
        rw [this] at ha; injection ha
      obtain ⟨ad', D0, c0, e0, hab, hc0, hs0, -⟩ := hss.out.at_ hx
      injection e0 with e0
      subst e0
      rw [hax] at hc0 hs0
      have HS0 : Ss w3 D0 a := hs0
      have hcell : wr.cell? (ad3.add k) = some (.slice D0 a.length c0) := (HB3.out.cell (by rw [yblock_add]; exact hab)).trans hc0
      have hadl : (ad3.add k).block < wr.heap.size := by rw [yblock_add]; exact Nat.lt_of_lt_of_le hab HB3.out.size
      have CA : Hid (∀ W : World, Bel w W → Ss W D0 a → Calls Tryz.prog 43 #[.agg #[.slice A n c, .slice B m d], .slice D0 a.length c0] W (PartR W (partD names ps a))) := fun W hb hs => CP.out a (hax ▸ List.getElem_mem hx) W D0 _ _ hb hs rfl
      have HS1 : Ss wr D0 a := HS0.up HB3
      have k0 : (0 : Int) ≤ (k : Int) := by omega
      have k1 : (k : Int) < (z : Int) := by omega
      have HA := khide ha
      obtain ⟨adk, hadk⟩ : ∃ x, ad3.add k = x := ⟨_, rfl⟩
      have HWS : Hid (w3.heap.size ≤ wr.heap.size) := HB3.out.size
      clear ha hax hx hc0 hs0 hab HS0
      obtain ⟨pr, hpr⟩ : ∃ pr, partD names ps a = pr := ⟨_, rfl⟩
      have HPR := khide hpr
      rw [hpr] at CA
      clear hpr
      go_upto_region 11 with fail
      rw [hadk] at hcell hadl
      cases pr with
      | none =>
        have HE : Hid (res = .error 2) := by unfold Hid; rw [← HRES.out, partsL_bad HA.out HPR.out]; rfl
        go_cut [11, 12] from 32 to 40 (fun o v w' => v = .bool false ∧ Bel w w')
        case first =>
          have HS1r := HS1
          have hcellr := hcell
          have hadlr := hadl
          have HK1 := HKr.dr
          have HB1 : Bel w wr.drew := HBr.dr
          have HW1 : Bel wr wr.drew := (Bel.refl wr).dr
          replace HS1 := HS1.dr
          replace hcell : wr.drew.cell? adk = some (.slice D0 a.length c0) := hcell
          replace hadl : adk.block < wr.drew.heap.size := hadl
          have HZS : Hid (w3.heap.size ≤ wr.drew.heap.size) := HWS
          have hpk : wr.heap.size ≠ w.heap.size := Nat.ne_of_gt HKr.lt
          have hpa : wr.heap.size ≠ adk.block := Nat.ne_of_gt hadl
          have hwp : w.heap.size ≤ wr.heap.size := HBr.size
          refine wp_region_held_drew (S := fun w' => w'.cell? ⟨w.heap.size, 0, none⟩ = some (.slice A n c) ∧ w'.cell? ⟨w.heap.size, 1, none⟩ = some (.slice B m d) ∧ w'.cell? adk = some (.slice D0 a.length c0)) (by kernel_rfl) ?_ (fun hHeld => ?_)
          · exact ⟨HK1.c0, HK1.c1, hcell⟩
          (refine wpAnyH_take (i := 0) (v := ?_) rfl (by decide +kernel) (by decide +kernel) (by decide +kernel) (fun _ _ _ h => h) (Or.inl ⟨by rfl, ?_⟩) (by assumption) ?_; rotate_left; (focus ((intro w hSw; (try dsimp only at hSw); go_simp); (try (with_reducible rfl)); done)); (try simp only [List.getElem_toArray, List.getElem_cons_zero, List.getElem_cons_succ, Act.put, List.setIfInBounds_toArray, List.set_cons_zero, List.set_cons_succ]))
          (refine wpAnyH_take (i := 1) (v := ?_) rfl (by decide +kernel) (by decide +kernel) (by decide +kernel) (fun _ _ _ h => h) (Or.inl ⟨by rfl, ?_⟩) (by assumption) ?_; rotate_left; (focus ((intro w hSw; (try dsimp only at hSw); go_simp); (try (with_reducible rfl)); done)); (try simp only [List.getElem_toArray, List.getElem_cons_zero, List.getElem_cons_succ, Act.put, List.setIfInBounds_toArray, List.set_cons_zero, List.set_cons_succ]))
          (refine wpAnyH_take (i := 2) (v := ?_) rfl (by decide +kernel) (by decide +kernel) (by decide +kernel) (fun _ _ _ h => h) (Or.inl ⟨by rfl, ?_⟩) (by assumption) ?_; rotate_left; (focus ((intro w hSw; (try dsimp only at hSw); go_simp); (try (with_reducible rfl)); done)); (try simp only [List.getElem_toArray, List.getElem_cons_zero, List.getElem_cons_succ, Act.put, List.setIfInBounds_toArray, List.set_cons_zero, List.set_cons_succ]))
          (refine wpAnyH_take (i := 3) (v := ?_) rfl (by decide +kernel) (by decide +kernel) (by decide +kernel) (fun _ _ _ h => h) (Or.inl ⟨by rfl, ?_⟩) (by assumption) ?_; rotate_left; (focus ((intro w hSw; (try dsimp only at hSw); go_simp); (try (with_reducible rfl)); done)); (try simp only [List.getElem_toArray, List.getElem_cons_zero, List.getElem_cons_succ, Act.put, List.setIfInBounds_toArray, List.set_cons_zero, List.set_cons_succ]))
          (refine wpAnyH_take (i := 4) (v := ?_) rfl (by decide +kernel) (by decide +kernel) (by decide +kernel) (fun _ _ _ h => h) (Or.inl ⟨by rfl, ?_⟩) (by assumption) ?_; rotate_left; (focus ((intro w hSw; (try dsimp only at hSw); go_simp); (try (with_reducible rfl)); done)); (try simp only [List.getElem_toArray, List.getElem_cons_zero, List.getElem_cons_succ, Act.put, List.setIfInBounds_toArray, List.set_cons_zero, List.set_cons_succ]))
          refine wpAnyH_ready (rs := [5, 9]) (by decide +kernel) (by simp) ?_
          refine AllReadyH.cons rfl (fun K hK => ?_) (AllReadyH.cons rfl (fun K hK => ?_) (AllReadyH.nil))
          · (go_simp; (go_at_call 43; (with_reducible refine (CA.out _ HB1 HS1).mono ?_); rintro e w4 ⟨B1, e1, m1, B2, e2, m2, tt, rfl, hb⟩; replace HK1 := HK1.up hb.hid; replace HB1 := HB1.up hb.hid; replace HW1 := HW1.up hb.hid; replace hcell : w4.cell? adk = some (.slice D0 a.length c0) := (hb.cell (p := adk) hadl).trans hcell; replace hadl : adk.block < w4.heap.size := Nat.lt_of_lt_of_le hadl hb.size); (try (go_wp2_with fail)); refine hK.out _ _ ?_ (fun hHeld => ?_); (focus ((try dsimp only); (first | (with_reducible exact ⟨HK1.c0, HK1.c1, hcell⟩) | exact ⟨(HK1.al _).c0, (HK1.al _).c1, (World.cell?_alloc_lt _ _ _ hadl).trans hcell⟩ | exact ⟨(HK1.far hpk _).c0, (HK1.far hpk _).c1, (World.cell?_setCell_far _ _ _ _ hpa).trans hcell⟩ | exact ⟨(((HK1.far hpk (i := 0) _).far hpk (i := 1) _).far hpk (i := 2) _).c0, (((HK1.far hpk (i := 0) _).far hpk (i := 1) _).far hpk (i := 2) _).c1, (World.cell?_setCell_far _ _ _ _ hpa).trans ((World.cell?_setCell_far _ _ _ _ hpa).trans ((World.cell?_setCell_far _ _ _ _ hpa).trans hcell))⟩))); clear hK K; (try simp only [List.getElem_toArray, List.getElem_cons_zero, List.getElem_cons_succ, Act.put, List.setIfInBounds_toArray, List.set_cons_zero, List.set_cons_succ]))
            (refine wpAnyH_take (i := 6) (v := ?_) rfl (by decide +kernel) (by decide +kernel) (by decide +kernel) (fun _ _ _ h => h) (Or.inl ⟨by rfl, ?_⟩) (by assumption) ?_; rotate_left; (focus ((intro w hSw; (try dsimp only at hSw); go_simp); (try (with_reducible rfl)); done)); (try simp only [List.getElem_toArray, List.getElem_cons_zero, List.getElem_cons_succ, Act.put, List.setIfInBounds_toArray, List.set_cons_zero, List.set_cons_succ]))
            (refine wpAnyH_take (i := 7) (v := ?_) rfl (by decide +kernel) (by decide +kernel) (by decide +kernel) (fun _ _ _ h => h) (Or.inl ⟨by rfl, ?_⟩) (by assumption) ?_; rotate_left; (focus ((intro w hSw; (try dsimp only at hSw); go_simp); (try (with_reducible rfl)); done)); (try simp only [List.getElem_toArray, List.getElem_cons_zero, List.getElem_cons_succ, Act.put, List.setIfInBounds_toArray, List.set_cons_zero, List.set_cons_succ]))
            (refine wpAnyH_take (i := 8) (v := ?_) rfl (by decide +kernel) (by decide +kernel) (by decide +kernel) (fun _ _ _ h => h) (Or.inl ⟨by rfl, ?_⟩) (by assumption) ?_; rotate_left; (focus ((intro w hSw; (try dsimp only at hSw); go_simp); (try (with_reducible rfl)); done)); (try simp only [List.getElem_toArray, List.getElem_cons_zero, List.getElem_cons_succ, Act.put, List.setIfInBounds_toArray, List.set_cons_zero, List.set_cons_succ]))
            (refine wpAnyH_ready (rs := [9]) (by decide +kernel) (by simp) ?_; refine AllReadyH.cons rfl (fun K hK => ?_) AllReadyH.nil; go_simp; refine hK.out _ _ ?_ (fun hHeld => ?_); (focus ((try dsimp only); (first | (with_reducible exact ⟨HK1.c0, HK1.c1, hcell⟩) | exact ⟨(HK1.al _).c0, (HK1.al _).c1, (World.cell?_alloc_lt _ _ _ hadl).trans hcell⟩ | exact ⟨(HK1.far hpk _).c0, (HK1.far hpk _).c1, (World.cell?_setCell_far _ _ _ _ hpa).trans hcell⟩ | exact ⟨(((HK1.far hpk (i := 0) _).far hpk (i := 1) _).far hpk (i := 2) _).c0, (((HK1.far hpk (i := 0) _).far hpk (i := 1) _).far hpk (i := 2) _).c1, (World.cell?_setCell_far _ _ _ _ hpa).trans ((World.cell?_setCell_far _ _ _ _ hpa).trans ((World.cell?_setCell_far _ _ _ _ hpa).trans hcell))⟩))); clear hK K; (try simp only [List.getElem_toArray, List.getElem_cons_zero, List.getElem_cons_succ, Act.put, List.setIfInBounds_toArray, List.set_cons_zero, List.set_cons_succ]))
            (refine wpAnyH_ready (rs := [10]) (by decide +kernel) (by simp) ?_; refine AllReadyH.cons rfl (fun K hK => ?_) AllReadyH.nil; go_simp; refine hK.out _ _ ?_ (fun hHeld => ?_); (focus ((try dsimp only); (first | (with_reducible exact ⟨HK1.c0, HK1.c1, hcell⟩) | exact ⟨(HK1.al _).c0, (HK1.al _).c1, (World.cell?_alloc_lt _ _ _ hadl).trans hcell⟩ | exact ⟨(HK1.far hpk _).c0, (HK1.far hpk _).c1, (World.cell?_setCell_far _ _ _ _ hpa).trans hcell⟩ | exact ⟨(((HK1.far hpk (i := 0) _).far hpk (i := 1) _).far hpk (i := 2) _).c0, (((HK1.far hpk (i := 0) _).far hpk (i := 1) _).far hpk (i := 2) _).c1, (World.cell?_setCell_far _ _ _ _ hpa).trans ((World.cell?_setCell_far _ _ _ _ hpa).trans ((World.cell?_setCell_far _ _ _ _ hpa).trans hcell))⟩))); clear hK K; (try simp only [List.getElem_toArray, List.getElem_cons_zero, List.getElem_cons_succ, Act.put, List.setIfInBounds_toArray, List.set_cons_zero, List.set_cons_succ]))
            (refine wpAnyH_take (i := 11) (v := ?_) rfl (by decide +kernel) (by decide +kernel) (by decide +kernel) (fun _ _ _ h => h) (Or.inl ⟨by rfl, ?_⟩) (by assumption) ?_; rotate_left; (focus ((intro w hSw; (try dsimp only at hSw); go_simp); (try (with_reducible rfl)); done)); (try simp only [List.getElem_toArray, List.getElem_cons_zero, List.getElem_cons_succ, Act.put, List.setIfInBounds_toArray, List.set_cons_zero, List.set_cons_succ]))
            refine wpAnyH_done (by decide +kernel) ?_ _
            go_wp2_with fail
            go_meet
            case rel => exact ⟨rfl, HB1.al _⟩
          · (go_simp; refine hK.out _ _ ?_ (fun hHeld => ?_); (focus ((try dsimp only); (first | (with_reducible exact ⟨HK1.c0, HK1.c1, hcell⟩) | exact ⟨(HK1.al _).c0, (HK1.al _).c1, (World.cell?_alloc_lt _ _ _ hadl).trans hcell⟩ | exact ⟨(HK1.far hpk _).c0, (HK1.far hpk _).c1, (World.cell?_setCell_far _ _ _ _ hpa).trans hcell⟩ | exact ⟨(((HK1.far hpk (i := 0) _).far hpk (i := 1) _).far hpk (i := 2) _).c0, (((HK1.far hpk (i := 0) _).far hpk (i := 1) _).far hpk (i := 2) _).c1, (World.cell?_setCell_far _ _ _ _ hpa).trans ((World.cell?_setCell_far _ _ _ _ hpa).trans ((World.cell?_setCell_far _ _ _ _ hpa).trans hcell))⟩))); clear hK K; (try simp only [List.getElem_toArray, List.getElem_cons_zero, List.getElem_cons_succ, Act.put, List.setIfInBounds_toArray, List.set_cons_zero, List.set_cons_succ]))
            (refine wpAnyH_ready (rs := [5]) (by decide +kernel) (by simp) ?_; refine AllReadyH.cons rfl (fun K hK => ?_) AllReadyH.nil; go_simp; (go_at_call 43; (with_reducible refine (CA.out _ ((HBr.al _).dr) ((HS1r.al _).dr)).mono ?_); rintro e w4 ⟨B1, e1, m1, B2, e2, m2, tt, rfl, hb⟩; have HX := At.up ((at_new0 wr _ _).dr) hb.hid; replace HK1 := ((HKr.al _).dr).up hb.hid; replace HB1 := ((HBr.al _).dr).up hb.hid; replace HW1 := (((Bel.refl wr).al _).dr).up hb.hid; replace hcell : w4.cell? adk = some (.slice D0 a.length c0) := (hb.cell (p := adk) (show adk.block < (wr.alloc _).heap.size by simp; omega)).trans ((World.cell?_alloc_lt wr _ _ hadlr).trans hcellr); have hx_f0 := HX.f0; have hx_f1 := HX.f1; have hx_f2 := HX.f2; have hx_0 := HX.c0; have hx_1 := HX.c1; have hx_2 := HX.c2; have hx_l := HX.lt); (try (go_wp2_with fail)); refine hK.out _ _ ?_ (fun hHeld => ?_); (focus ((try dsimp only); (first | (with_reducible exact ⟨HK1.c0, HK1.c1, hcell⟩) | exact ⟨(HK1.al _).c0, (HK1.al _).c1, (World.cell?_alloc_lt _ _ _ hadl).trans hcell⟩ | exact ⟨(HK1.far hpk _).c0, (HK1.far hpk _).c1, (World.cell?_setCell_far _ _ _ _ hpa).trans hcell⟩ | exact ⟨(((HK1.far hpk (i := 0) _).far hpk (i := 1) _).far hpk (i := 2) _).c0, (((HK1.far hpk (i := 0) _).far hpk (i := 1) _).far hpk (i := 2) _).c1, (World.cell?_setCell_far _ _ _ _ hpa).trans ((World.cell?_setCell_far _ _ _ _ hpa).trans ((World.cell?_setCell_far _ _ _ _ hpa).trans hcell))⟩))); clear hK K; (try simp only [List.getElem_toArray, List.getElem_cons_zero, List.getElem_cons_succ, Act.put, List.setIfInBounds_toArray, List.set_cons_zero, List.set_cons_succ]))
            (refine wpAnyH_take (i := 6) (v := ?_) rfl (by decide +kernel) (by decide +kernel) (by decide +kernel) (fun _ _ _ h => h) (Or.inl ⟨by rfl, ?_⟩) (by assumption) ?_; rotate_left; (focus ((intro w hSw; (try dsimp only at hSw); go_simp); (try (with_reducible rfl)); done)); (try simp only [List.getElem_toArray, List.getElem_cons_zero, List.getElem_cons_succ, Act.put, List.setIfInBounds_toArray, List.set_cons_zero, List.set_cons_succ]))
            (refine wpAnyH_take (i := 7) (v := ?_) rfl (by decide +kernel) (by decide +kernel) (by decide +kernel) (fun _ _ _ h => h) (Or.inl ⟨by rfl, ?_⟩) (by assumption) ?_; rotate_left; (focus ((intro w hSw; (try dsimp only at hSw); go_simp); (try (with_reducible rfl)); done)); (try simp only [List.getElem_toArray, List.getElem_cons_zero, List.getElem_cons_succ, Act.put, List.setIfInBounds_toArray, List.set_cons_zero, List.set_cons_succ]))
            (refine wpAnyH_take (i := 8) (v := ?_) rfl (by decide +kernel) (by decide +kernel) (by decide +kernel) (fun _ _ _ h => h) (Or.inl ⟨by rfl, ?_⟩) (by assumption) ?_; rotate_left; (focus ((intro w hSw; (try dsimp only at hSw); go_simp); (try (with_reducible rfl)); done)); (try simp only [List.getElem_toArray, List.getElem_cons_zero, List.getElem_cons_succ, Act.put, List.setIfInBounds_toArray, List.set_cons_zero, List.set_cons_succ]))
            (refine wpAnyH_ready (rs := [10]) (by decide +kernel) (by simp) ?_; refine AllReadyH.cons rfl (fun K hK => ?_) AllReadyH.nil; go_simp; refine hK.out _ _ ?_ (fun hHeld => ?_); (focus ((try dsimp only); (first | (with_reducible exact ⟨HK1.c0, HK1.c1, hcell⟩) | exact ⟨(HK1.al _).c0, (HK1.al _).c1, (World.cell?_alloc_lt _ _ _ hadl).trans hcell⟩ | exact ⟨(HK1.far hpk _).c0, (HK1.far hpk _).c1, (World.cell?_setCell_far _ _ _ _ hpa).trans hcell⟩ | exact ⟨(((HK1.far hpk (i := 0) _).far hpk (i := 1) _).far hpk (i := 2) _).c0, (((HK1.far hpk (i := 0) _).far hpk (i := 1) _).far hpk (i := 2) _).c1, (World.cell?_setCell_far _ _ _ _ hpa).trans ((World.cell?_setCell_far _ _ _ _ hpa).trans ((World.cell?_setCell_far _ _ _ _ hpa).trans hcell))⟩))); clear hK K; (try simp only [List.getElem_toArray, List.getElem_cons_zero, List.getElem_cons_succ, Act.put, List.setIfInBounds_toArray, List.set_cons_zero, List.set_cons_succ]))
            (refine wpAnyH_take (i := 11) (v := ?_) rfl (by decide +kernel) (by decide +kernel) (by decide +kernel) (fun _ _ _ h => h) (Or.inl ⟨by rfl, ?_⟩) (by assumption) ?_; rotate_left; (focus ((intro w hSw; (try dsimp only at hSw); go_simp); (try (with_reducible rfl)); done)); (try simp only [List.getElem_toArray, List.getElem_cons_zero, List.getElem_cons_succ, Act.put, List.setIfInBounds_toArray, List.set_cons_zero, List.set_cons_succ]))
            refine wpAnyH_done (by decide +kernel) ?_ _
            go_wp2_with fail
            go_meet
            case rel => exact ⟨rfl, Below.setCell (Below.setCell (Below.setCell HB1 hwp _) hwp _) hwp _⟩

        case rest =>
          obtain ⟨rfl, hB⟩ := hcut
          go_wp2_with fail
          go_ret2
          rw [HE.out]
          exact ⟨rfl, hB⟩
      | some p =>
        obtain ⟨l1, l2, tt⟩ := p
        have HV2 : Hid (partsL names ps (css.take (k + 1)) = some (r ++ [(l1, l2, tt)])) := partsL_take HA.out HPR.out HV.out
        go_cut [11, 12] from 32 to 40 (fun o v w' => ∃ px B1 e1 B2 e2, o = .pointer (some ⟨px, 0, none⟩) ∧ v = .bool true ∧ At w' px [.slice B1 l1.length e1, .slice B2 l2.length e2, .string tt] ∧ Hid (w'.ownsRow w3.heap.size 125 3 (.slice B1 l1.length e1) l1.length (cellsA l1)) ∧ Hid (w'.ownsRow w3.heap.size 125 3 (.slice B2 l2.length e2) l2.length (cellsA l2)) ∧ Bel wr w')
        case first =>
          have HS1r := HS1
          have hcellr := hcell
          have hadlr := hadl
          have HK1 := HKr.dr
          have HB1 : Bel w wr.drew := HBr.dr
          have HW1 : Bel wr wr.drew := (Bel.refl wr).dr
          replace HS1 := HS1.dr
          replace hcell : wr.drew.cell? adk = some (.slice D0 a.length c0) := hcell
          replace hadl : adk.block < wr.drew.heap.size := hadl
          have HZS : Hid (w3.heap.size ≤ wr.drew.heap.size) := HWS
          have hpk : wr.heap.size ≠ w.heap.size := Nat.ne_of_gt HKr.lt
          have hpa : wr.heap.size ≠ adk.block := Nat.ne_of_gt hadl
          have hwp : w.heap.size ≤ wr.heap.size := HBr.size
          refine wp_region_held_drew (S := fun w' => w'.cell? ⟨w.heap.size, 0, none⟩ = some (.slice A n c) ∧ w'.cell? ⟨w.heap.size, 1, none⟩ = some (.slice B m d) ∧ w'.cell? adk = some (.slice D0 a.length c0)) (by kernel_rfl) ?_ (fun hHeld => ?_)
          · exact ⟨HK1.c0, HK1.c1, hcell⟩
          (refine wpAnyH_take (i := 0) (v := ?_) rfl (by decide +kernel) (by decide +kernel) (by decide +kernel) (fun _ _ _ h => h) (Or.inl ⟨by rfl, ?_⟩) (by assumption) ?_; rotate_left; (focus ((intro w hSw; (try dsimp only at hSw); go_simp); (try (with_reducible rfl)); done)); (try simp only [List.getElem_toArray, List.getElem_cons_zero, List.getElem_cons_succ, Act.put, List.setIfInBounds_toArray, List.set_cons_zero, List.set_cons_succ]))
          (refine wpAnyH_take (i := 1) (v := ?_) rfl (by decide +kernel) (by decide +kernel) (by decide +kernel) (fun _ _ _ h => h) (Or.inl ⟨by rfl, ?_⟩) (by assumption) ?_; rotate_left; (focus ((intro w hSw; (try dsimp only at hSw); go_simp); (try (with_reducible rfl)); done)); (try simp only [List.getElem_toArray, List.getElem_cons_zero, List.getElem_cons_succ, Act.put, List.setIfInBounds_toArray, List.set_cons_zero, List.set_cons_succ]))
          (refine wpAnyH_take (i := 2) (v := ?_) rfl (by decide +kernel) (by decide +kernel) (by decide +kernel) (fun _ _ _ h => h) (Or.inl ⟨by rfl, ?_⟩) (by assumption) ?_; rotate_left; (focus ((intro w hSw; (try dsimp only at hSw); go_simp); (try (with_reducible rfl)); done)); (try simp only [List.getElem_toArray, List.getElem_cons_zero, List.getElem_cons_succ, Act.put, List.setIfInBounds_toArray, List.set_cons_zero, List.set_cons_succ]))
          (refine wpAnyH_take (i := 3) (v := ?_) rfl (by decide +kernel) (by decide +kernel) (by decide +kernel) (fun _ _ _ h => h) (Or.inl ⟨by rfl, ?_⟩) (by assumption) ?_; rotate_left; (focus ((intro w hSw; (try dsimp only at hSw); go_simp); (try (with_reducible rfl)); done)); (try simp only [List.getElem_toArray, List.getElem_cons_zero, List.getElem_cons_succ, Act.put, List.setIfInBounds_toArray, List.set_cons_zero, List.set_cons_succ]))
          (refine wpAnyH_take (i := 4) (v := ?_) rfl (by decide +kernel) (by decide +kernel) (by decide +kernel) (fun _ _ _ h => h) (Or.inl ⟨by rfl, ?_⟩) (by assumption) ?_; rotate_left; (focus ((intro w hSw; (try dsimp only at hSw); go_simp); (try (with_reducible rfl)); done)); (try simp only [List.getElem_toArray, List.getElem_cons_zero, List.getElem_cons_succ, Act.put, List.setIfInBounds_toArray, List.set_cons_zero, List.set_cons_succ]))
          refine wpAnyH_ready (rs := [5, 9]) (by decide +kernel) (by simp) ?_
          refine AllReadyH.cons rfl (fun K hK => ?_) (AllReadyH.cons rfl (fun K hK => ?_) (AllReadyH.nil))
          · (go_simp; (go_at_call 43; (with_reducible refine (CA.out _ HB1 HS1).mono ?_); rintro e w4 ⟨B1, e1, B2, e2, rfl, HO1, HO2, hb⟩; replace HK1 := HK1.up hb.hid; replace HB1 := HB1.up hb.hid; replace HW1 := HW1.up hb.hid; replace hcell : w4.cell? adk = some (.slice D0 a.length c0) := (hb.cell (p := adk) hadl).trans hcell; replace hadl : adk.block < w4.heap.size := Nat.lt_of_lt_of_le hadl hb.size); (try (go_wp2_with fail)); refine hK.out _ _ ?_ (fun hHeld => ?_); (focus ((try dsimp only); (first | (with_reducible exact ⟨HK1.c0, HK1.c1, hcell⟩) | exact ⟨(HK1.al _).c0, (HK1.al _).c1, (World.cell?_alloc_lt _ _ _ hadl).trans hcell⟩ | exact ⟨(HK1.far hpk _).c0, (HK1.far hpk _).c1, (World.cell?_setCell_far _ _ _ _ hpa).trans hcell⟩ | exact ⟨(((HK1.far hpk (i := 0) _).far hpk (i := 1) _).far hpk (i := 2) _).c0, (((HK1.far hpk (i := 0) _).far hpk (i := 1) _).far hpk (i := 2) _).c1, (World.cell?_setCell_far _ _ _ _ hpa).trans ((World.cell?_setCell_far _ _ _ _ hpa).trans ((World.cell?_setCell_far _ _ _ _ hpa).trans hcell))⟩))); clear hK K; (try simp only [List.getElem_toArray, List.getElem_cons_zero, List.getElem_cons_succ, Act.put, List.setIfInBounds_toArray, List.set_cons_zero, List.set_cons_succ]))
            (refine wpAnyH_take (i := 6) (v := ?_) rfl (by decide +kernel) (by decide +kernel) (by decide +kernel) (fun _ _ _ h => h) (Or.inl ⟨by rfl, ?_⟩) (by assumption) ?_; rotate_left; (focus ((intro w hSw; (try dsimp only at hSw); go_simp); (try (with_reducible rfl)); done)); (try simp only [List.getElem_toArray, List.getElem_cons_zero, List.getElem_cons_succ, Act.put, List.setIfInBounds_toArray, List.set_cons_zero, List.set_cons_succ]))
            (refine wpAnyH_take (i := 7) (v := ?_) rfl (by decide +kernel) (by decide +kernel) (by decide +kernel) (fun _ _ _ h => h) (Or.inl ⟨by rfl, ?_⟩) (by assumption) ?_; rotate_left; (focus ((intro w hSw; (try dsimp only at hSw); go_simp); (try (with_reducible rfl)); done)); (try simp only [List.getElem_toArray, List.getElem_cons_zero, List.getElem_cons_succ, Act.put, List.setIfInBounds_toArray, List.set_cons_zero, List.set_cons_succ]))
            (refine wpAnyH_take (i := 8) (v := ?_) rfl (by decide +kernel) (by decide +kernel) (by decide +kernel) (fun _ _ _ h => h) (Or.inl ⟨by rfl, ?_⟩) (by assumption) ?_; rotate_left; (focus ((intro w hSw; (try dsimp only at hSw); go_simp); (try (with_reducible rfl)); done)); (try simp only [List.getElem_toArray, List.getElem_cons_zero, List.getElem_cons_succ, Act.put, List.setIfInBounds_toArray, List.set_cons_zero, List.set_cons_succ]))
            (refine wpAnyH_ready (rs := [9]) (by decide +kernel) (by simp) ?_; refine AllReadyH.cons rfl (fun K hK => ?_) AllReadyH.nil; go_simp; refine hK.out _ _ ?_ (fun hHeld => ?_); (focus ((try dsimp only); (first | (with_reducible exact ⟨HK1.c0, HK1.c1, hcell⟩) | exact ⟨(HK1.al _).c0, (HK1.al _).c1, (World.cell?_alloc_lt _ _ _ hadl).trans hcell⟩ | exact ⟨(HK1.far hpk _).c0, (HK1.far hpk _).c1, (World.cell?_setCell_far _ _ _ _ hpa).trans hcell⟩ | exact ⟨(((HK1.far hpk (i := 0) _).far hpk (i := 1) _).far hpk (i := 2) _).c0, (((HK1.far hpk (i := 0) _).far hpk (i := 1) _).far hpk (i := 2) _).c1, (World.cell?_setCell_far _ _ _ _ hpa).trans ((World.cell?_setCell_far _ _ _ _ hpa).trans ((World.cell?_setCell_far _ _ _ _ hpa).trans hcell))⟩))); clear hK K; (try simp only [List.getElem_toArray, List.getElem_cons_zero, List.getElem_cons_succ, Act.put, List.setIfInBounds_toArray, List.set_cons_zero, List.set_cons_succ]))
            (refine wpAnyH_ready (rs := [10]) (by decide +kernel) (by simp) ?_; refine AllReadyH.cons rfl (fun K hK => ?_) AllReadyH.nil; go_simp; refine hK.out _ _ ?_ (fun hHeld => ?_); (focus ((try dsimp only); (first | (with_reducible exact ⟨HK1.c0, HK1.c1, hcell⟩) | exact ⟨(HK1.al _).c0, (HK1.al _).c1, (World.cell?_alloc_lt _ _ _ hadl).trans hcell⟩ | exact ⟨(HK1.far hpk _).c0, (HK1.far hpk _).c1, (World.cell?_setCell_far _ _ _ _ hpa).trans hcell⟩ | exact ⟨(((HK1.far hpk (i := 0) _).far hpk (i := 1) _).far hpk (i := 2) _).c0, (((HK1.far hpk (i := 0) _).far hpk (i := 1) _).far hpk (i := 2) _).c1, (World.cell?_setCell_far _ _ _ _ hpa).trans ((World.cell?_setCell_far _ _ _ _ hpa).trans ((World.cell?_setCell_far _ _ _ _ hpa).trans hcell))⟩))); clear hK K; (try simp only [List.getElem_toArray, List.getElem_cons_zero, List.getElem_cons_succ, Act.put, List.setIfInBounds_toArray, List.set_cons_zero, List.set_cons_succ]))
            (refine wpAnyH_take (i := 11) (v := ?_) rfl (by decide +kernel) (by decide +kernel) (by decide +kernel) (fun _ _ _ h => h) (Or.inl ⟨by rfl, ?_⟩) (by assumption) ?_; rotate_left; (focus ((intro w hSw; (try dsimp only at hSw); go_simp); (try (with_reducible rfl)); done)); (try simp only [List.getElem_toArray, List.getElem_cons_zero, List.getElem_cons_succ, Act.put, List.setIfInBounds_toArray, List.set_cons_zero, List.set_cons_succ]))
            refine wpAnyH_done (by decide +kernel) ?_ _
            go_wp2_with fail
            go_meet
            case rel => exact ⟨_, B1, e1, B2, e2, rfl, rfl, at_new0 _ _ _, khide (own_base (HO1.out.alloc _) HZS.out), khide (own_base (HO2.out.alloc _) HZS.out), HW1.al _⟩
          · (go_simp; refine hK.out _ _ ?_ (fun hHeld => ?_); (focus ((try dsimp only); (first | (with_reducible exact ⟨HK1.c0, HK1.c1, hcell⟩) | exact ⟨(HK1.al _).c0, (HK1.al _).c1, (World.cell?_alloc_lt _ _ _ hadl).trans hcell⟩ | exact ⟨(HK1.far hpk _).c0, (HK1.far hpk _).c1, (World.cell?_setCell_far _ _ _ _ hpa).trans hcell⟩ | exact ⟨(((HK1.far hpk (i := 0) _).far hpk (i := 1) _).far hpk (i := 2) _).c0, (((HK1.far hpk (i := 0) _).far hpk (i := 1) _).far hpk (i := 2) _).c1, (World.cell?_setCell_far _ _ _ _ hpa).trans ((World.cell?_setCell_far _ _ _ _ hpa).trans ((World.cell?_setCell_far _ _ _ _ hpa).trans hcell))⟩))); clear hK K; (try simp only [List.getElem_toArray, List.getElem_cons_zero, List.getElem_cons_succ, Act.put, List.setIfInBounds_toArray, List.set_cons_zero, List.set_cons_succ]))
            (refine wpAnyH_ready (rs := [5]) (by decide +kernel) (by simp) ?_; refine AllReadyH.cons rfl (fun K hK => ?_) AllReadyH.nil; go_simp; (go_at_call 43; (with_reducible refine (CA.out _ ((HBr.al _).dr) ((HS1r.al _).dr)).mono ?_); rintro e w4 ⟨B1, e1, B2, e2, rfl, HO1, HO2, hb⟩; have HX := At.up ((at_new0 wr _ _).dr) hb.hid; replace HK1 := ((HKr.al _).dr).up hb.hid; replace HB1 := ((HBr.al _).dr).up hb.hid; replace HW1 := (((Bel.refl wr).al _).dr).up hb.hid; replace hcell : w4.cell? adk = some (.slice D0 a.length c0) := (hb.cell (p := adk) (show adk.block < (wr.alloc _).heap.size by simp; omega)).trans ((World.cell?_alloc_lt wr _ _ hadlr).trans hcellr); have hx_f0 := HX.f0; have hx_f1 := HX.f1; have hx_f2 := HX.f2; have hx_0 := HX.c0; have hx_1 := HX.c1; have hx_2 := HX.c2; have hx_l := HX.lt); (try (go_wp2_with fail)); refine hK.out _ _ ?_ (fun hHeld => ?_); (focus ((try dsimp only); (first | (with_reducible exact ⟨HK1.c0, HK1.c1, hcell⟩) | exact ⟨(HK1.al _).c0, (HK1.al _).c1, (World.cell?_alloc_lt _ _ _ hadl).trans hcell⟩ | exact ⟨(HK1.far hpk _).c0, (HK1.far hpk _).c1, (World.cell?_setCell_far _ _ _ _ hpa).trans hcell⟩ | exact ⟨(((HK1.far hpk (i := 0) _).far hpk (i := 1) _).far hpk (i := 2) _).c0, (((HK1.far hpk (i := 0) _).far hpk (i := 1) _).far hpk (i := 2) _).c1, (World.cell?_setCell_far _ _ _ _ hpa).trans ((World.cell?_setCell_far _ _ _ _ hpa).trans ((World.cell?_setCell_far _ _ _ _ hpa).trans hcell))⟩))); clear hK K; (try simp only [List.getElem_toArray, List.getElem_cons_zero, List.getElem_cons_succ, Act.put, List.setIfInBounds_toArray, List.set_cons_zero, List.set_cons_succ]))
            (refine wpAnyH_take (i := 6) (v := ?_) rfl (by decide +kernel) (by decide +kernel) (by decide +kernel) (fun _ _ _ h => h) (Or.inl ⟨by rfl, ?_⟩) (by assumption) ?_; rotate_left; (focus ((intro w hSw; (try dsimp only at hSw); go_simp); (try (with_reducible rfl)); done)); (try simp only [List.getElem_toArray, List.getElem_cons_zero, List.getElem_cons_succ, Act.put, List.setIfInBounds_toArray, List.set_cons_zero, List.set_cons_succ]))
            (refine wpAnyH_take (i := 7) (v := ?_) rfl (by decide +kernel) (by decide +kernel) (by decide +kernel) (fun _ _ _ h => h) (Or.inl ⟨by rfl, ?_⟩) (by assumption) ?_; rotate_left; (focus ((intro w hSw; (try dsimp only at hSw); go_simp); (try (with_reducible rfl)); done)); (try simp only [List.getElem_toArray, List.getElem_cons_zero, List.getElem_cons_succ, Act.put, List.setIfInBounds_toArray, List.set_cons_zero, List.set_cons_succ]))
            (refine wpAnyH_take (i := 8) (v := ?_) rfl (by decide +kernel) (by decide +kernel) (by decide +kernel) (fun _ _ _ h => h) (Or.inl ⟨by rfl, ?_⟩) (by assumption) ?_; rotate_left; (focus ((intro w hSw; (try dsimp only at hSw); go_simp); (try (with_reducible rfl)); done)); (try simp only [List.getElem_toArray, List.getElem_cons_zero, List.getElem_cons_succ, Act.put, List.setIfInBounds_toArray, List.set_cons_zero, List.set_cons_succ]))
            (refine wpAnyH_ready (rs := [10]) (by decide +kernel) (by simp) ?_; refine AllReadyH.cons rfl (fun K hK => ?_) AllReadyH.nil; go_simp; refine hK.out _ _ ?_ (fun hHeld => ?_); (focus ((try dsimp only); (first | (with_reducible exact ⟨HK1.c0, HK1.c1, hcell⟩) | exact ⟨(HK1.al _).c0, (HK1.al _).c1, (World.cell?_alloc_lt _ _ _ hadl).trans hcell⟩ | exact ⟨(HK1.far hpk _).c0, (HK1.far hpk _).c1, (World.cell?_setCell_far _ _ _ _ hpa).trans hcell⟩ | exact ⟨(((HK1.far hpk (i := 0) _).far hpk (i := 1) _).far hpk (i := 2) _).c0, (((HK1.far hpk (i := 0) _).far hpk (i := 1) _).far hpk (i := 2) _).c1, (World.cell?_setCell_far _ _ _ _ hpa).trans ((World.cell?_setCell_far _ _ _ _ hpa).trans ((World.cell?_setCell_far _ _ _ _ hpa).trans hcell))⟩))); clear hK K; (try simp only [List.getElem_toArray, List.getElem_cons_zero, List.getElem_cons_succ, Act.put, List.setIfInBounds_toArray, List.set_cons_zero, List.set_cons_succ]))
            (refine wpAnyH_take (i := 11) (v := ?_) rfl (by decide +kernel) (by decide +kernel) (by decide +kernel) (fun _ _ _ h => h) (Or.inl ⟨by rfl, ?_⟩) (by assumption) ?_; rotate_left; (focus ((intro w hSw; (try dsimp only at hSw); go_simp); (try (with_reducible rfl)); done)); (try simp only [List.getElem_toArray, List.getElem_cons_zero, List.getElem_cons_succ, Act.put, List.setIfInBounds_toArray, List.set_cons_zero, List.set_cons_succ]))
            refine wpAnyH_done (by decide +kernel) ?_ _
            go_wp2_with fail
            go_meet
            case rel =>
              have hlt9 : wr.heap.size < (wr.alloc (.cells #[.slice none 0 0, .slice none 0 0, .string ⟨#[]⟩] 86)).drew.heap.size := by simp
              have hle9 : w3.heap.size ≤ (wr.alloc (.cells #[.slice none 0 0, .slice none 0 0, .string ⟨#[]⟩] 86)).drew.heap.size := Nat.le_trans HWS.out (Nat.le_of_lt hlt9)
              exact ⟨_, B1, e1, B2, e2, rfl, rfl, ((HX.put (i := 0) (by simp) _).put (i := 1) (by simp) _).put (i := 2) (by simp) _, khide (own_base (ownsRow_setCell_below (ownsRow_setCell_below (ownsRow_setCell_below HO1.out hlt9 _) hlt9 _) hlt9 _) hle9), khide (own_base (ownsRow_setCell_below (ownsRow_setCell_below (ownsRow_setCell_below HO2.out hlt9 _) hlt9 _) hlt9 _) hle9), Below.setCell (Below.setCell (Below.setCell HW1 (Nat.le_refl _) _) (Nat.le_refl _) _) (Nat.le_refl _) _⟩

        case rest =>
          obtain ⟨px, B1, e1, B2, e2, rfl, rfl, HX, HO1, HO2, hW⟩ := hcut
          have HO3 : Hid (OwnP w3.heap.size wc (.slice R k cp) r cs) := khide (HO.out.up hW.hid)
          have HB4 : Hid (Below w3.heap.size w3 wc) := HB3.out.trans (hW.mono HWS.out)
          have hx_0 := HX.c0; have hx_1 := HX.c1; have hx_2 := HX.c2; have hx_l := HX.lt
          have HOW : Hid (wc.ownsRow w3.heap.size 86 3 (.slice R k cp) k cs) := by
            have h9 := HO3.out.own
            rw [hrk.out] at h9
            exact h9
          have HBS : Hid (w3.heap.size ≤ wc.heap.size) := HB4.out.size
          clear HO HKr HBr hcell hadl hadk HS1 CA HB3 hW
          go_wp2_with (first | (at_builtin; go_must (refine wpList_append_own _ rfl (.tmp 43) (.tmp 45) 45 rfl w3.heap.size 86 i0 (.agg #[.slice none 0 0, .slice none 0 0, .string ByteArray.empty]) 3 64 Tryz.underlying45 J0.out Y0.out Y1.out Y2.out rfl (by decide) _ _ _ rfl (HOW.out.alloc _) ⟨wc.heap.size, 0, none⟩ 1 1 [.slice B1 l1.length e1, .slice B2 l2.length e2, .string tt] rfl rfl (at_news (at_new0 _ _ _)) cellP_one (by simp only [maxLen]; omega) (by omega) (Nat.le_trans HBS.out (by simp)) ?_); intro v1 w5 ho1 hg1 hn1; clear hn1) | fail)
          have hg2 : (wc.alloc (.cells #[.slice B1 l1.length e1, .slice B2 l2.length e2, .string tt] 86)).grownBy w5 (Value.slice R k cp).ownBlock := hg1
          have HB5 : Hid (Below w3.heap.size w3 w5) := (HB4.out.alloc HB4.out.size _).grown hg2 (HB4.out.alloc HB4.out.size _).size (fun g' e => (HOW.out.lt g' e).1)
          obtain ⟨R2, cp2, rfl, _⟩ := own_slice ho1
          have HAo := fun o => HO3.out.up (w' := wc.alloc o) ((Below.refl _ _).alloc (Nat.le_refl _) o)
          have HM := OwnP.more (p := (l1, l2, tt)) (HAo _) (by rw [hrk.out]; exact ho1) hg2 (HO1.out.alloc _) (HO2.out.alloc _)
          have HO5 := khide HM
          clear hg1 hg2 ho1 HAo HM
          go_roundw
          case rel =>
            refine ⟨k + 1, cp2, R2, r ++ [(l1, l2, tt)], cs ++ [.slice B1 l1.length e1, .slice B2 l2.length e2, .string tt], by omega, by go_num, rfl, ?_, HV2, HO5, HB5⟩
            unfold Hid
            rw [List.length_append, hrk.out]; rfl
          case measure => simp [intOf]; omega
    · obtain rfl : k = z := by omega
      have HE : Hid (res = .ok r) := by
        have h9 := HV.out
        rw [List.take_of_length_le (by rw [HZ.out]; exact Nat.le_refl _)] at h9
        unfold Hid; rw [← HRES.out, h9]; rfl
      go_wp2_with fail
      go_ret2
      rw [HE.out]
      exact ⟨R, cp, k, hrk.out.symm, rfl, HO.out.rp hrk.out.symm, HBr⟩
end
end Go.Proofs.YthdpojkeceoiiaaGreatDoor
end

section
/- The document's own ParseUnit of any text. Conditions: names and prefixes that fit. -/
open Go.RowKit
set_option maxRecDepth 100000
namespace Go.Proofs.YthdpojkeceoiiaaGreatDoor
theorem runitD_any {A B : Option Addr} {n c m d : Nat} {names ps : List ByteArray} {s : ByteArray} {w : World} (h : Ss w A names) (hn : n = names.length) (hl : n ≤ 1000000) (h' : Ss w B ps) (hm : m = ps.length) (hl' : m ≤ 1000000) (hps : ∀ x ∈ ps, x.size ≤ 2000000) : Calls Tryz.prog 16 #[.agg #[.slice A n c, .slice B m d], .string s] w (UnitRd w (unitD names ps s)) := by
  unfold unitD
  by_cases h1 : 256 < s.size
  · rw [if_pos h1]
    exact runit_no (.inl rfl) (fun W => rsplit_long h1 W)
  · rw [if_neg h1]
    have h1' : s.size ≤ 256 := by omega
    by_cases h2 : goodAll (pcs s) = false
    · rw [if_pos h2]
      refine runit_no (.inr rfl) (fun W => ?_)
      have h3 := rsplit_any (s := s) h1' W
      unfold SplitA at h3
      rw [h2] at h3
      exact h3
    · rw [if_neg h2]
      have h2' : goodAll (pcs s) = true := by simpa using h2
      have hs : ∀ W, Calls Tryz.prog 41 #[.string s] W (SplitOk W (pcs s)) := fun W => by
        have h3 := rsplit_any (s := s) h1' W
        unfold SplitA at h3
        rw [h2'] at h3
        exact h3
      have hx : (pcs s).length ≤ 1000 := by have := pcs_le s; omega
      by_cases h4 : 4 < (cutBy andB (pcs s)).length
      · rw [if_pos h4]
        exact runit_many hx hs rfl h4
      · rw [if_neg h4]
        refine runit_rest hx hs rfl (by omega) (fun l hl0 W D j g hb hss hj => ?_)
        have hls : ∀ x ∈ l, x.size ≤ 1000 := fun x hx0 => by
          have := goodAll_size h2' x (cutBy_mem _ l hl0 x hx0)
          omega
        have hll : l.length ≤ (pcs s).length := cutBy_piece hl0
        exact rpart_any' (h.up hb.hid) hn hl (h'.up hb.hid) hm hl' hss hj (by omega) hls hps
end Go.Proofs.YthdpojkeceoiiaaGreatDoor
end
