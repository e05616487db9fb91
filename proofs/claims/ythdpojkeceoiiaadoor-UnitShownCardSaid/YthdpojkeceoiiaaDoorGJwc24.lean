/- Several texts in one, each with its own sentence and conditions. -/
import Derived.Test.YthdpojkeceoiiaaDoorGJwc16
import Derived.Test.YthdpojkeceoiiaaDoorGJwc23
import Derived.Deep.RegionHeld
import Derived.Test.YthdpojkeceoiiaaDoorGJwc3
section
/- The law's own atomOf, knownOf, atomsOf. Conditions: atoms that fit. -/
open Go.RowKit
set_option maxRecDepth 100000
namespace Go.Proofs.YthdpojkeceoiiaaDoor
/-- A row of atoms that the call made. -/
def AtomsOR (W : World) (l : List AL) (e : Ending) (w' : World) : Prop := ∃ A c, e = .returned (.slice A l.length c) ∧ (A = none → c = 0) ∧ Hid (l = [] → A = none ∧ c = 0) ∧ Hid (w'.ownsRow W.heap.size 85 3 (.slice A l.length c) l.length (cellsA l)) ∧ Bel W w'
def RetAA (W : World) (p n : ByteArray) (k : Int) (e : Ending) (w' : World) : Prop := e = .returned (.agg #[.string p, .string n, .int .i64 k]) ∧ Bel W w'
theorem atomOf10_any (p n : ByteArray) (k : Int) (w : World) : Calls Tryd.prog 49 #[.agg #[.string p, .string n, .int .i64 k]] w (RetAA w p n k) := by
  obtain ⟨W1, hW1⟩ : ∃ X, X = (w.alloc (.cells #[.string p, .string n, .int .i64 k] 98)).alloc (.cells #[.string ⟨#[]⟩, .string ⟨#[]⟩, .int .i64 0] 85) := ⟨_, rfl⟩
  have HA : At W1 w.heap.size [.string p, .string n, .int .i64 k] := by rw [hW1]; exact (at_new0 _ _ _).al _
  have HR : At W1 (w.heap.size + 1) [.string ⟨#[]⟩, .string ⟨#[]⟩, .int .i64 0] := by rw [hW1]; exact at_new1 _ _ _ _
  have HB : Bel w W1 := by rw [hW1]; exact ((Bel.refl w).al _).al _
  have HW := khide hW1
  clear hW1
  have ha_0 := HA.c0; have ha_1 := HA.c1; have ha_2 := HA.c2; have ha_l := HA.lt
  have hr_0 := HR.c0; have hr_1 := HR.c1; have hr_2 := HR.c2; have hr_l := HR.lt; have hr_f0 := HR.f0; have hr_f1 := HR.f1; have hr_f2 := HR.f2
  go_enter Tryd.func49, Tryd.ntmps49
  go_upto_region 1 with fail
  rw [← HW.out]
  go_wp2_with fail
  refine bodyPost_ret (v := .agg #[.string p, .string n, .int .i64 k]) (by simp [results, Tryd.results49, go_sem, hr_0, hr_1, hr_2]) rfl ⟨rfl, kbelow3 HB (by omega) _ _ _⟩
set_option maxHeartbeats 4000000 in
theorem atomsOf_any {A : Option Addr} {n c : Nat} {l : List AL} {w : World} (h : Cs w A (cellsA l)) (hn : n = l.length) (hl : n ≤ 1000000) : Calls Tryd.prog 34 #[.slice A n c] w (AtomsOR w l) := by
  have HN := khide hn
  obtain ⟨i0, hi, hz0, hz1, hz2⟩ := info_parts infoAtomC
  have J0 := khide hi; have Y0 := khide hz0; have Y1 := khide hz1; have Y2 := khide hz2
  clear hi hz0 hz1 hz2 hn
  go_enter Tryd.func34, Tryd.ntmps34
  go_wp2
  go_loopw [3, 4] (fun rv iv wr => ∃ (k cp : Nat) (R : Option Addr), k ≤ n ∧ iv = .int .i64 (k : Int) ∧ rv = .slice R k cp ∧ Hid (k = 0 → R = none ∧ cp = 0) ∧ Hid (wr.ownsRow w.heap.size 85 3 (.slice R k cp) k (cellsA (l.take k))) ∧ Hid (Below w.heap.size w wr)) (fun _ iv _ => n - (intOf iv).toNat)
  case atStart => exact ⟨0, 0, none, Nat.zero_le _, rfl, rfl, fun _ => ⟨rfl, rfl⟩, World.ownsRow_nil _ _ _ _, Below.refl _ _⟩
  case round =>
    obtain ⟨k, cp, R, hk, rfl, rfl, HZ, HO, HB⟩ := hrel
    by_cases hlt : k < n
    · obtain ⟨a, ha⟩ : ∃ a, l[k]? = some a := ⟨l[k]'(by rw [← HN.out]; exact hlt), List.getElem?_eq_getElem _⟩
      obtain ⟨ad, rfl, had, a0, a1, a2⟩ := cs_at3 (h.up HB) ha
      obtain ⟨p, nm, pk⟩ := a
      have C0 : Hid (Calls Tryd.prog 49 #[.agg #[.string p, .string nm, .int .i64 pk]] wr (RetAA wr p nm pk)) := atomOf10_any p nm pk wr
      have HX : Hid (cellsA (l.take (k + 1)) = cellsA (l.take k) ++ cellA (p, nm, pk)) := by
        obtain ⟨hx, hx2⟩ := List.getElem?_eq_some_iff.1 ha
        unfold Hid
        rw [List.take_succ_eq_append_getElem hx, hx2, cellsA_snoc]
      have HBS : Hid (w.heap.size ≤ wr.heap.size) := HB.out.size
      have k0 : (0 : Int) ≤ (k : Int) := by omega
      have k1 : (k : Int) < (n : Int) := by omega
      clear ha
      go_wp2_with (first | (go_at_call 49; (with_reducible refine (C0.out).mono ?_); rintro e w2 ⟨rfl, hb2⟩) | (at_builtin; go_must (refine wpList_append_own _ rfl (.tmp 11) (.tmp 17) 53 rfl w.heap.size 85 i0 (.agg #[.string ByteArray.empty, .string ByteArray.empty, .int .i64 0]) 3 40 Tryd.underlying53 J0.out Y0.out Y1.out Y2.out rfl (by decide) _ _ _ rfl ((own_up HO.out hb2.hid).alloc _) ⟨w2.heap.size, 0, none⟩ 1 1 (cellA (p, nm, pk)) rfl rfl (at_news (at_new0 _ _ _)) (cellA_one _) (by simp only [maxLen]; omega) (by omega) (Nat.le_trans HBS.out (Nat.le_trans hb2.size (by simp))) ?_); intro v1 w3 ho1 hg1 hn1; clear hn1) | fail)
      have hg2 : (w2.alloc (.cells #[.string p, .string nm, .int .i64 pk] 85)).grownBy w3 (Value.slice R k cp).ownBlock := hg1
      have HO2 := own_up HO.out hb2.hid
      have HB2 : Hid (Below w.heap.size w w2) := HB.out.trans (hb2.mono HBS.out)
      have HB3 : Hid (Below w.heap.size w w3) := (HB2.out.alloc HB2.out.size _).grown hg2 (HB2.out.alloc HB2.out.size _).size (fun g' e => (HO2.lt g' e).1)
      obtain ⟨R2, cp2, rfl, _⟩ := own_slice ho1
      have HO3 := khide ho1
      clear hg1 hg2 ho1 HO2
      go_roundw
      case rel =>
        refine ⟨k + 1, cp2, R2, by omega, by go_num, rfl, (fun e => by omega), ?_, HB3⟩
        rw [HX.out]
        exact HO3
      case measure => simp [intOf]; omega
    · obtain rfl : k = n := by omega
      go_wp2
      go_ret
      have h3 := HO.out
      rw [List.take_of_length_le (by rw [← HN.out]; exact Nat.le_refl _)] at h3
      refine ⟨R, cp, by rw [← HN.out]; rfl, ?_, fun e2 => HZ.out (by rw [HN.out, e2]; rfl), by rw [← HN.out]; exact h3, HB.out⟩
      obtain ⟨A1, c1, e1, h1⟩ := own_slice h3
      injection e1 with e2 _ e3
      subst e2; subst e3
      exact h1
end Go.Proofs.YthdpojkeceoiiaaDoor
end

section
/- The law's partOf; rows of the document's parts that a call builds; partsOf. Conditions: lists that fit. -/
open Go.RowKit
set_option maxRecDepth 100000
namespace Go.Proofs.YthdpojkeceoiiaaDoor
/-- A part that the call made. -/
def PartO (W : World) (p : PL) (e : Ending) (w' : World) : Prop := ∃ A1 c1 A2 c2, e = .returned (.agg #[.slice A1 p.1.length c1, .slice A2 p.2.1.length c2, .string p.2.2]) ∧
  Hid (w'.ownsRow W.heap.size 85 3 (.slice A1 p.1.length c1) p.1.length (cellsA p.1)) ∧ Hid (w'.ownsRow W.heap.size 85 3 (.slice A2 p.2.1.length c2) p.2.1.length (cellsA p.2.1)) ∧ Bel W w'
theorem own_dr {W : World} {base size n : Nat} {e : TypeId} {v : Value} {xs : List Value} (h : Hid (W.ownsRow base e size v n xs)) : Hid (W.drew.ownsRow base e size v n xs) := h
section
variable {w : World} {q : QL}
set_option maxHeartbeats 8000000 in
theorem partOf_any {v1 v2 v3 : Value} (hq : Q1 w v1 v2 v3 q) (hl : LenQ q) : Calls Tryd.prog 17 #[.agg #[v1, v2, v3]] w (PartO w (toP q)) := by
  obtain ⟨A1, c1, A2, c2, A3, c3, rfl, rfl, rfl, b1, b2, b3, b4, r1, r2, r3, -, -⟩ := hq.open_
  obtain ⟨l1, l2, ws⟩ := q
  obtain ⟨h1, h2⟩ := hl
  have C1 : Hid (∀ W, Bel w W → Calls Tryd.prog 34 #[.slice A1 l1.length c1] W (AtomsOR W l1)) := fun W hb => atomsOf_any (r1.up hb.hid) rfl h1
  have C2 : Hid (∀ W, Bel w W → Calls Tryd.prog 34 #[.slice A2 l2.length c2] W (AtomsOR W l2)) := fun W hb => atomsOf_any (r2.up hb.hid) rfl h2
  have CT : Hid (∀ W, Bel w W → Calls Tryd.prog 10 #[.agg #[.slice A3 ws.length c3]] W (TextR W (nuT (val W32 ws)))) := fun W hb => text_r (r3.up hb.hid) (nuT_data _)
  show Calls Tryd.prog 17 #[.agg #[.slice A1 l1.length c1, .slice A2 l2.length c2, .slice A3 ws.length c3]] w (PartO w (l1, l2, nuT (val W32 ws)))
  obtain ⟨t, ht⟩ : ∃ t, nuT (val W32 ws) = t := ⟨_, rfl⟩
  rw [ht] at CT ⊢
  obtain ⟨n1, hn1⟩ : ∃ n, l1.length = n := ⟨_, rfl⟩
  obtain ⟨n2, hn2⟩ : ∃ n, l2.length = n := ⟨_, rfl⟩
  obtain ⟨n3, hn3⟩ : ∃ n, ws.length = n := ⟨_, rfl⟩
  unfold PartO
  unfold AtomsOR at C1 C2
  dsimp only
  rw [hn1] at C1 ⊢
  rw [hn2] at C2 ⊢
  rw [hn3] at CT ⊢
  clear b1 b2 b3 b4 r1 r2 r3 hq h1 h2 ht hn1 hn2 hn3
  obtain ⟨W1, hW1⟩ : ∃ X, X = (w.alloc (.cells #[.slice A1 n1 c1, .slice A2 n2 c2, .slice A3 n3 c3] 43)).alloc (.cells #[.slice none 0 0, .slice none 0 0, .string ⟨#[]⟩] 55) := ⟨_, rfl⟩
  have HP : At W1 w.heap.size [.slice A1 n1 c1, .slice A2 n2 c2, .slice A3 n3 c3] := by rw [hW1]; exact (at_new0 _ _ _).al _
  have HR : At W1 (w.heap.size + 1) [.slice none 0 0, .slice none 0 0, .string ⟨#[]⟩] := by rw [hW1]; exact at_new1 _ _ _ _
  have HB : Bel w W1 := by rw [hW1]; exact ((Bel.refl w).al _).al _
  have HW := khide hW1
  clear hW1
  have hrp : w.heap.size + 1 ≠ w.heap.size := by omega
  go_enter Tryd.func17, Tryd.ntmps17
  go_upto_region 1 with fail
  rw [← HW.out]
  clear HW
  replace HP := HP.dr; replace HR := HR.dr; replace HB := HB.dr
  refine wp_region_held_drew (S := fun w' => w'.cell? ⟨w.heap.size, 0, none⟩ = some (.slice A1 n1 c1) ∧ w'.cell? ⟨w.heap.size, 1, none⟩ = some (.slice A2 n2 c2) ∧ w'.cell? ⟨w.heap.size, 2, none⟩ = some (.slice A3 n3 c3)) (by kernel_rfl) ?_ (fun hHeld => ?_)
  · exact ⟨HP.c0, HP.c1, HP.c2⟩
  have hr_f0 := HR.f0; have hr_f1 := HR.f1; have hr_f2 := HR.f2; have hr_0 := HR.c0; have hr_1 := HR.c1; have hr_2 := HR.c2; have hr_l := HR.lt
  generalize W1.drew = Wd at *
  have hrl := HR.lt
  have hwb := HB.size
  obtain ⟨bs, hbs⟩ : ∃ b, b = Wd.heap.size := ⟨_, rfl⟩
  rw [← hbs] at hrl hwb
  have HBS := khide hbs
  clear hbs
  (refine wpAnyH_take (i := 0) (v := ?_) rfl (by decide +kernel) (by decide +kernel) (by decide +kernel) (fun _ _ _ h => h) (Or.inl ⟨by rfl, ?_⟩) (by assumption) ?_; rotate_left; (focus ((intro w hSw; (try dsimp only at hSw); go_simp); (try (with_reducible rfl)); done)); (try simp only [List.getElem_toArray, List.getElem_cons_zero, List.getElem_cons_succ, Act.put, List.setIfInBounds_toArray, List.set_cons_zero, List.set_cons_succ]))
  (refine wpAnyH_take (i := 1) (v := ?_) rfl (by decide +kernel) (by decide +kernel) (by decide +kernel) (fun _ _ _ h => h) (Or.inl ⟨by rfl, ?_⟩) (by assumption) ?_; rotate_left; (focus ((intro w hSw; (try dsimp only at hSw); go_simp); (try (with_reducible rfl)); done)); (try simp only [List.getElem_toArray, List.getElem_cons_zero, List.getElem_cons_succ, Act.put, List.setIfInBounds_toArray, List.set_cons_zero, List.set_cons_succ]))
  (refine wpAnyH_take (i := 3) (v := ?_) rfl (by decide +kernel) (by decide +kernel) (by decide +kernel) (fun _ _ _ h => h) (Or.inl ⟨by rfl, ?_⟩) (by assumption) ?_; rotate_left; (focus ((intro w hSw; (try dsimp only at hSw); go_simp); (try (with_reducible rfl)); done)); (try simp only [List.getElem_toArray, List.getElem_cons_zero, List.getElem_cons_succ, Act.put, List.setIfInBounds_toArray, List.set_cons_zero, List.set_cons_succ]))
  (refine wpAnyH_take (i := 4) (v := ?_) rfl (by decide +kernel) (by decide +kernel) (by decide +kernel) (fun _ _ _ h => h) (Or.inl ⟨by rfl, ?_⟩) (by assumption) ?_; rotate_left; (focus ((intro w hSw; (try dsimp only at hSw); go_simp); (try (with_reducible rfl)); done)); (try simp only [List.getElem_toArray, List.getElem_cons_zero, List.getElem_cons_succ, Act.put, List.setIfInBounds_toArray, List.set_cons_zero, List.set_cons_succ]))
  (refine wpAnyH_take (i := 6) (v := ?_) rfl (by decide +kernel) (by decide +kernel) (by decide +kernel) (fun _ _ _ h => h) (Or.inl ⟨by rfl, ?_⟩) (by assumption) ?_; rotate_left; (focus ((intro w hSw; (try dsimp only at hSw); go_simp); (try (with_reducible rfl)); done)); (try simp only [List.getElem_toArray, List.getElem_cons_zero, List.getElem_cons_succ, Act.put, List.setIfInBounds_toArray, List.set_cons_zero, List.set_cons_succ]))
  (refine wpAnyH_take (i := 7) (v := ?_) rfl (by decide +kernel) (by decide +kernel) (by decide +kernel) (fun _ _ _ h => h) (Or.inl ⟨by rfl, ?_⟩) (by assumption) ?_; rotate_left; (focus ((intro w hSw; (try dsimp only at hSw); go_simp); (try (with_reducible rfl)); done)); (try simp only [List.getElem_toArray, List.getElem_cons_zero, List.getElem_cons_succ, Act.put, List.setIfInBounds_toArray, List.set_cons_zero, List.set_cons_succ]))
  (refine wpAnyH_ready (rs := [2]) (by decide +kernel) (by simp) ?_; refine AllReadyH.cons rfl (fun K hK => ?_) AllReadyH.nil; go_simp; (go_at_call 34; (with_reducible refine (C1.out _ HB).mono ?_); rintro e w3 ⟨B1, d1, rfl, -, -, HO1, hb⟩; replace HP := HP.up (Bel.hid hb); replace HR := HR.up (Bel.hid hb); replace HB := HB.up (Bel.hid hb); replace HO1 := khide (own_base HO1.out (show bs ≤ _ from HBS.out ▸ Nat.le_refl _)); have HZ := khide (show bs ≤ w3.heap.size from HBS.out ▸ hb.size); clear hr_f0 hr_f1 hr_f2 hr_0 hr_1 hr_2 hr_l; have hr_f0 := HR.f0; have hr_f1 := HR.f1; have hr_f2 := HR.f2; have hr_0 := HR.c0; have hr_1 := HR.c1; have hr_2 := HR.c2; have hr_l := HR.lt); (try (go_wp2_with fail)); refine hK.out _ _ ?_ (fun hHeld => ?_); (focus ((try dsimp only); (first | (with_reducible exact ⟨HP.c0, HP.c1, HP.c2⟩) | exact KS.out _ _ _))); clear hK K; (try simp only [List.getElem_toArray, List.getElem_cons_zero, List.getElem_cons_succ, Act.put, List.setIfInBounds_toArray, List.set_cons_zero, List.set_cons_succ]))
  (refine wpAnyH_ready (rs := [5]) (by decide +kernel) (by simp) ?_; refine AllReadyH.cons rfl (fun K hK => ?_) AllReadyH.nil; go_simp; (go_at_call 34; (with_reducible refine (C2.out _ HB).mono ?_); rintro e w4 ⟨B2, d2, rfl, -, -, HO2, hb⟩; replace HP := HP.up (Bel.hid hb); replace HR := HR.up (Bel.hid hb); replace HB := HB.up (Bel.hid hb); replace HO1 := khide (own_up HO1.out (Bel.hid hb)); replace HO2 := khide (own_base HO2.out HZ.out); replace HZ := khide (Nat.le_trans HZ.out hb.size); clear hr_f0 hr_f1 hr_f2 hr_0 hr_1 hr_2 hr_l; have hr_f0 := HR.f0; have hr_f1 := HR.f1; have hr_f2 := HR.f2; have hr_0 := HR.c0; have hr_1 := HR.c1; have hr_2 := HR.c2; have hr_l := HR.lt); (try (go_wp2_with fail)); refine hK.out _ _ ?_ (fun hHeld => ?_); (focus ((try dsimp only); (first | (with_reducible exact ⟨HP.c0, HP.c1, HP.c2⟩) | exact KS.out _ _ _))); clear hK K; (try simp only [List.getElem_toArray, List.getElem_cons_zero, List.getElem_cons_succ, Act.put, List.setIfInBounds_toArray, List.set_cons_zero, List.set_cons_succ]))
  (refine wpAnyH_ready (rs := [8]) (by decide +kernel) (by simp) ?_; refine AllReadyH.cons rfl (fun K hK => ?_) AllReadyH.nil; go_simp; (go_at_call 10; (with_reducible refine (CT.out _ HB).mono ?_); rintro e w5 ⟨rfl, hb⟩; replace HP := HP.up hb; replace HR := HR.up hb; replace HB := HB.up hb; replace HO1 := khide (own_up HO1.out hb); replace HO2 := khide (own_up HO2.out hb); clear hr_f0 hr_f1 hr_f2 hr_0 hr_1 hr_2 hr_l; have hr_f0 := HR.f0; have hr_f1 := HR.f1; have hr_f2 := HR.f2; have hr_0 := HR.c0; have hr_1 := HR.c1; have hr_2 := HR.c2; have hr_l := HR.lt; have KS : Hid (∀ x y z : Value, (((w5.setCell ⟨w.heap.size + 1, 0, none⟩ x).setCell ⟨w.heap.size + 1, 1, none⟩ y).setCell ⟨w.heap.size + 1, 2, none⟩ z).cell? ⟨w.heap.size, 0, none⟩ = some (.slice A1 n1 c1) ∧ (((w5.setCell ⟨w.heap.size + 1, 0, none⟩ x).setCell ⟨w.heap.size + 1, 1, none⟩ y).setCell ⟨w.heap.size + 1, 2, none⟩ z).cell? ⟨w.heap.size, 1, none⟩ = some (.slice A2 n2 c2) ∧ (((w5.setCell ⟨w.heap.size + 1, 0, none⟩ x).setCell ⟨w.heap.size + 1, 1, none⟩ y).setCell ⟨w.heap.size + 1, 2, none⟩ z).cell? ⟨w.heap.size, 2, none⟩ = some (.slice A3 n3 c3)) := (fun x y z => by have h5 := ((HP.far hrp (i := 0) x).far hrp (i := 1) y).far hrp (i := 2) z; exact ⟨h5.c0, h5.c1, h5.c2⟩)); (try (go_wp2_with fail)); refine hK.out _ _ ?_ (fun hHeld => ?_); (focus ((try dsimp only); (first | (with_reducible exact ⟨HP.c0, HP.c1, HP.c2⟩) | exact KS.out _ _ _))); clear hK K; (try simp only [List.getElem_toArray, List.getElem_cons_zero, List.getElem_cons_succ, Act.put, List.setIfInBounds_toArray, List.set_cons_zero, List.set_cons_succ]))
  (refine wpAnyH_take (i := 9) (v := ?_) rfl (by decide +kernel) (by decide +kernel) (by decide +kernel) (fun _ _ _ h => h) (Or.inl ⟨by rfl, ?_⟩) (by assumption) ?_; rotate_left; (focus ((intro w hSw; (try dsimp only at hSw); go_simp); (try (with_reducible rfl)); done)); (try simp only [List.getElem_toArray, List.getElem_cons_zero, List.getElem_cons_succ, Act.put, List.setIfInBounds_toArray, List.set_cons_zero, List.set_cons_succ]))
  (refine wpAnyH_ready (rs := [10]) (by decide +kernel) (by simp) ?_; refine AllReadyH.cons rfl (fun K hK => ?_) AllReadyH.nil; go_simp; refine hK.out _ _ ?_ (fun hHeld => ?_); (focus ((try dsimp only); (first | (with_reducible exact ⟨HP.c0, HP.c1, HP.c2⟩) | exact KS.out _ _ _))); clear hK K; (try simp only [List.getElem_toArray, List.getElem_cons_zero, List.getElem_cons_succ, Act.put, List.setIfInBounds_toArray, List.set_cons_zero, List.set_cons_succ]))
  refine wpAnyH_done (by decide +kernel) ?_ _
  go_wp2_with fail
  have hs : w.heap.size ≤ w.heap.size + 1 := Nat.le_succ _
  refine bodyPost_ret (v := .agg #[.slice B1 n1 d1, .slice B2 n2 d2, .string t]) (by simp [results, Tryd.results17, go_sem, hr_0, hr_1, hr_2, hr_l]) rfl ?_
  exact ⟨B1, d1, B2, d2, rfl, own_base (ownsRow_setCell_below (ownsRow_setCell_below (ownsRow_setCell_below HO1.out hrl _) hrl _) hrl _) hwb, own_base (ownsRow_setCell_below (ownsRow_setCell_below (ownsRow_setCell_below HO2.out hrl _) hrl _) hrl _) hwb, kbelow3 HB hs _ _ _⟩
end
theorem own_type_ne3 {w : World} {base size size' : Nat} {e e' : TypeId} {v v' : Value} {n n' : Nat} {xs xs' : List Value} (h : w.ownsRow base e size v n xs) (h' : w.ownsRow base e' size' v' n' xs') (hne : e ≠ e') : v.ownBlock = none ∨ v.ownBlock ≠ v'.ownBlock := by
  rcases h.2 with ⟨rfl, _⟩ | ⟨g, cap, cur, rfl, _, hg, _⟩
  · exact .inl rfl
  · rcases h'.2 with ⟨rfl, _⟩ | ⟨g', cap', cur', rfl, _, hg', _⟩
    · right; simp [Value.ownBlock]
    · right
      simp only [Value.ownBlock, ne_eq, Option.some.injEq]
      rintro rfl
      rw [hg] at hg'
      injection hg' with hg'
      injection hg' with _ ht
      exact hne ht
/-- A row of parts that the call above base made, its atoms too. -/
structure OwnP (base : Nat) (w : World) (v : Value) (ps : List PL) (cs : List Value) : Prop where
  own : w.ownsRow base 55 3 v ps.length cs
  len : cs.length = ps.length * 3
  each : ∀ j p, ps[j]? = some p → ∃ A1 c1 A2 c2, cs[j * 3]? = some (.slice A1 p.1.length c1) ∧ cs[j * 3 + 1]? = some (.slice A2 p.2.1.length c2) ∧ cs[j * 3 + 2]? = some (.string p.2.2) ∧
    w.ownsRow base 85 3 (.slice A1 p.1.length c1) p.1.length (cellsA p.1) ∧ w.ownsRow base 85 3 (.slice A2 p.2.1.length c2) p.2.1.length (cellsA p.2.1)
section
variable {base : Nat} {w w' : World} {v v' : Value} {ps : List PL} {p : PL} {cs : List Value}
theorem OwnP.nil : OwnP base w (.slice none 0 0) [] [] := ⟨World.ownsRow_nil _ _ _ _, rfl, fun j p h => by simp at h⟩
theorem OwnP.up (h : OwnP base w v ps cs) (hb : Hid (Below w.heap.size w w')) : OwnP base w' v ps cs :=
  ⟨own_up h.own hb, h.len, fun j p hj => by
    obtain ⟨A1, c1, A2, c2, e1, e2, e3, h1, h2⟩ := h.each j p hj
    exact ⟨A1, c1, A2, c2, e1, e2, e3, own_up h1 hb, own_up h2 hb⟩⟩
theorem OwnP.more {A1 A2 : Option Addr} {c1 c2 : Nat} (h : OwnP base w v ps cs) (ho : w'.ownsRow base 55 3 v' (ps.length + 1) (cs ++ [.slice A1 p.1.length c1, .slice A2 p.2.1.length c2, .string p.2.2])) (hg : w.grownBy w' v.ownBlock)
    (h1 : w.ownsRow base 85 3 (.slice A1 p.1.length c1) p.1.length (cellsA p.1)) (h2 : w.ownsRow base 85 3 (.slice A2 p.2.1.length c2) p.2.1.length (cellsA p.2.1)) :
    OwnP base w' v' (ps ++ [p]) (cs ++ [.slice A1 p.1.length c1, .slice A2 p.2.1.length c2, .string p.2.2]) := by
  refine ⟨by rw [List.length_append]; exact ho, by rw [List.length_append, List.length_append, h.len]; simp; omega, fun j q hj => ?_⟩
  rcases Nat.lt_or_ge j ps.length with hlt | hge
  · rw [List.getElem?_append_left hlt] at hj
    obtain ⟨B1, d1, B2, d2, e1, e2, e3, k1, k2⟩ := h.each j q hj
    have hl := h.len
    exact ⟨B1, d1, B2, d2, by rw [List.getElem?_append_left (by omega)]; exact e1, by rw [List.getElem?_append_left (by omega)]; exact e2, by rw [List.getElem?_append_left (by omega)]; exact e3, k1.kept hg (own_type_ne3 k1 h.own (by decide)), k2.kept hg (own_type_ne3 k2 h.own (by decide))⟩
  · rw [List.getElem?_append_right hge] at hj
    have h0 : j = ps.length := by
      have := (List.getElem?_eq_some_iff.1 hj).1
      simp at this; omega
    subst h0
    rw [Nat.sub_self] at hj
    simp at hj
    subst hj
    have hl := h.len
    refine ⟨A1, c1, A2, c2, ?_, ?_, ?_, h1.kept hg (own_type_ne3 h1 h.own (by decide)), h2.kept hg (own_type_ne3 h2 h.own (by decide))⟩
    · rw [List.getElem?_append_right (by omega), hl, Nat.sub_self]; rfl
    · rw [List.getElem?_append_right (by omega), hl, show ps.length * 3 + 1 - ps.length * 3 = 1 by omega]; rfl
    · rw [List.getElem?_append_right (by omega), hl, show ps.length * 3 + 2 - ps.length * 3 = 2 by omega]; rfl
theorem OwnP.rp {A : Option Addr} {n c : Nat} (h : OwnP base w (.slice A n c) ps cs) (hn : n = ps.length) : Ps w A ps := fun h0 => by
  subst hn
  have hl := h.len
  have h1 : RC w w.heap.size A cs := RC.of_own (n := ps.length) h.own
  obtain ⟨ad, e, hb, hc⟩ := h1 (by omega)
  have hx : ∀ j : Nat, ∃ u v : Option Addr × Nat, ∀ p, ps[j]? = some p → cs[j * 3]? = some (.slice u.1 p.1.length u.2) ∧ cs[j * 3 + 1]? = some (.slice v.1 p.2.1.length v.2) ∧ cs[j * 3 + 2]? = some (.string p.2.2) ∧ RC w w.heap.size u.1 (cellsA p.1) ∧ RC w w.heap.size v.1 (cellsA p.2.1) := fun j => by
    cases hj : ps[j]? with
    | none => exact ⟨(none, 0), (none, 0), fun p hp => by cases hp⟩
    | some p =>
      obtain ⟨A1, c1, A2, c2, e1, e2, e3, k1, k2⟩ := h.each j p hj
      exact ⟨(A1, c1), (A2, c2), fun p' hp => by
        injection hp with hp
        subst hp
        exact ⟨e1, e2, e3, RC.of_own k1, RC.of_own k2⟩⟩
  refine ⟨ad, fun j => (hx j).choose, fun j => (hx j).choose_spec.choose, e, hb, fun j p hj => ?_⟩
  obtain ⟨e1, e2, e3, r1, r2⟩ := (hx j).choose_spec.choose_spec p hj
  exact ⟨hc _ _ e1, hc _ _ e2, hc _ _ e3, r1, r2⟩
end
end Go.Proofs.YthdpojkeceoiiaaDoor
end

section
/- The law's partsOf. Conditions: lists that fit. -/
open Go.RowKit
set_option maxRecDepth 100000
namespace Go.Proofs.YthdpojkeceoiiaaDoor
def cellP (x y : Value) (t : ByteArray) : List Value := [x, y, .string t]
theorem cellP_one {A1 A2 : Option Addr} {n1 c1 n2 c2 : Nat} {t : ByteArray} : ∀ u ∈ ([.slice A1 n1 c1, .slice A2 n2 c2, .string t] : List Value), u.oneCell' = true := by
  intro u hu
  simp only [List.mem_cons, List.not_mem_nil, or_false] at hu
  rcases hu with rfl | rfl | rfl <;> rfl
theorem infoPartR : (Tryd.prog.info? 55).map (fun i => (i.zero, i.size, i.bytes)) = some (some (.agg #[.slice none 0 0, .slice none 0 0, .string ByteArray.empty]), 3, 64) := by kernel_rfl
/-- A row of parts, as it reads. -/
def PartsO (W : World) (ps : List PL) (e : Ending) (w' : World) : Prop := ∃ R c z, Hid (z = ps.length) ∧ e = .returned (.slice R z c) ∧ Ps w' R ps ∧ Bel W w'
set_option maxHeartbeats 8000000 in
theorem partsOf_any {A : Option Addr} {n c : Nat} {qs : List QL} {w : World} (h : Qs w A qs) (hn : n = qs.length) (hl : n ≤ 1000) (hf : ∀ q ∈ qs, LenQ q) : Calls Tryd.prog 9 #[.agg #[.slice A n c]] w (PartsO w (qs.map toP)) := by
  obtain ⟨W1, hW1⟩ : ∃ X, X = w.alloc (.cells #[.slice A n c] 25) := ⟨_, rfl⟩
  have HU : At W1 w.heap.size [.slice A n c] := by rw [hW1]; exact at_new0 _ _ _
  have HB : Bel w W1 := by rw [hW1]; exact (Bel.refl w).al _
  have HN := khide hn
  have HF := khide hf
  have HL : Hid ((qs.map toP).length = n) := by unfold Hid; rw [List.length_map]; exact hn.symm
  have HW := khide hW1
  obtain ⟨i0, hi, hz0, hz1, hz2⟩ := info_parts infoPartR
  have J0 := khide hi; have Y0 := khide hz0; have Y1 := khide hz1; have Y2 := khide hz2
  clear hi hz0 hz1 hz2 hW1 hn hf
  obtain ⟨ps, hps⟩ : ∃ ps, qs.map toP = ps := ⟨_, rfl⟩
  have HPS := khide hps
  rw [hps] at HL ⊢
  clear hps
  replace h := h.up HB.hid
  go_enter Tryd.func9, Tryd.ntmps9
  go_upto_region 1 with fail
  rw [← HW.out]
  go_wp2_with fail
  go_loopw [3, 4] (fun rv iv wr => ∃ (k cp : Nat) (R : Option Addr) (cs : List Value), k ≤ n ∧ iv = .int .i64 (k : Int) ∧ rv = .slice R k cp ∧ Hid (OwnP W1.heap.size wr (.slice R k cp) (ps.take k) cs) ∧ Hid (Below W1.heap.size W1 wr)) (fun _ iv _ => n - (intOf iv).toNat)
  case atStart => exact ⟨0, 0, none, [], Nat.zero_le _, rfl, rfl, OwnP.nil, Below.refl _ _⟩
  case round =>
    obtain ⟨k, cp, R, cs, hk, rfl, rfl, HO, HBr⟩ := hrel
    have HUr := HU.up HBr
    have hu_0 := HUr.c0; have hu_l := HUr.lt
    by_cases hlt : k < n
    · obtain ⟨q, hq⟩ : ∃ q, qs[k]? = some q := ⟨qs[k]'(by rw [← HN.out]; exact hlt), List.getElem?_eq_getElem _⟩
      obtain ⟨ad, v1, v2, v3, rfl, had, a0, a1, a2, HQ⟩ := (h.up HBr).at_ hq
      obtain ⟨p, hp⟩ : ∃ p, toP q = p := ⟨_, rfl⟩
      have HPK : Hid (ps.take (k + 1) = ps.take k ++ [p]) := by
        have hx : k < ps.length := by rw [HL.out]; exact hlt
        have e : ps[k]? = some p := by rw [← HPS.out, List.getElem?_map, hq, ← hp]; rfl
        unfold Hid
        rw [List.take_succ_eq_append_getElem hx]
        rw [List.getElem?_eq_getElem hx] at e
        injection e with e
        rw [e]
      have HTL : Hid ((ps.take k).length = k) := by unfold Hid; rw [List.length_take, HL.out]; omega
      have CP : Hid (Calls Tryd.prog 17 #[.agg #[v1, v2, v3]] wr (PartO wr p)) := hp ▸ partOf_any HQ (HF.out q (List.mem_of_getElem? hq))
      obtain ⟨A1, c1, A2, c2, A3, c3, rfl, rfl, rfl, -⟩ := HQ.open_
      obtain ⟨l1, l2, t⟩ := p
      have HBS : Hid (W1.heap.size ≤ wr.heap.size) := HBr.out.size
      have k0 : (0 : Int) ≤ (k : Int) := by omega
      have k1 : (k : Int) < (n : Int) := by omega
      have HOW : Hid (wr.ownsRow W1.heap.size 55 3 (.slice R k cp) k cs) := by
        have h9 := HO.out.own
        rw [HTL.out] at h9
        exact h9
      clear hq hp HQ
      unfold PartO at CP
      dsimp only at CP
      go_wp2_with (first | (go_at_call 17; (with_reducible refine (CP.out).mono ?_); rintro e w2 ⟨B1, d1, B2, d2, rfl, HO1, HO2, hb2⟩) | (at_builtin; go_must (refine wpList_append_own _ rfl (.tmp 12) (.tmp 19) 35 rfl W1.heap.size 55 i0 (.agg #[.slice none 0 0, .slice none 0 0, .string ByteArray.empty]) 3 64 Tryd.underlying35 J0.out Y0.out Y1.out Y2.out rfl (by decide) _ _ _ rfl ((own_up HOW.out hb2.hid).alloc _) ⟨w2.heap.size, 0, none⟩ 1 1 [.slice B1 l1.length d1, .slice B2 l2.length d2, .string t] rfl rfl (at_news (at_new0 _ _ _)) cellP_one (by simp only [maxLen]; omega) (by omega) (Nat.le_trans HBS.out (Nat.le_trans hb2.size (by simp))) ?_); intro v1 w3 ho1 hg1 hn1; clear hn1) | fail)
      have hg2 : (w2.alloc (.cells #[.slice B1 l1.length d1, .slice B2 l2.length d2, .string t] 55)).grownBy w3 (Value.slice R k cp).ownBlock := hg1
      have HO2u := own_up HOW.out hb2.hid
      have HB2 : Hid (Below W1.heap.size W1 w2) := HBr.out.trans (hb2.mono HBS.out)
      have HB3 : Hid (Below W1.heap.size W1 w3) := (HB2.out.alloc HB2.out.size _).grown hg2 (HB2.out.alloc HB2.out.size _).size (fun g' e => (HO2u.lt g' e).1)
      obtain ⟨R2, cp2, rfl, _⟩ := own_slice ho1
      have HA := fun o => (HO.out.up hb2.hid).up (w' := w2.alloc o) ((Below.refl _ _).alloc (Nat.le_refl _) o)
      have HM := OwnP.more (p := (l1, l2, t)) (HA _) (by rw [HTL.out]; exact ho1) hg2 ((own_base HO1.out HBS.out).alloc _) ((own_base HO2.out HBS.out).alloc _)
      have HO3 := khide HM
      clear hg1 hg2 ho1 HO2u HA HM
      go_roundw
      case rel =>
        refine ⟨k + 1, cp2, R2, cs ++ [.slice B1 l1.length d1, .slice B2 l2.length d2, .string t], by omega, by go_num, rfl, ?_, HB3⟩
        rw [HPK.out]
        exact HO3
      case measure => simp [intOf]; omega
    · obtain rfl : k = n := by omega
      go_wp2
      go_ret
      have h3 := HO.out
      rw [List.take_of_length_le (by rw [HL.out]; exact Nat.le_refl _)] at h3
      exact ⟨R, cp, k, HL.out.symm, rfl, h3.rp HL.out.symm, HB.up (HBr.out.mono (Nat.le_refl _) |> khide)⟩
end Go.Proofs.YthdpojkeceoiiaaDoor
end

section
/- Plain mathematics: a unit that was read is shown as it was. No conditions. -/
open Go.RowKit
set_option maxRecDepth 100000
namespace Go.Proofs.YthdpojkeceoiiaaDoor
/-- The words, a hyphen ahead of each. -/
def tl (xs : List ByteArray) : List UInt8 := xs.flatMap fun x => 45 :: x.data.toList
theorem tl_app (xs ys : List ByteArray) : tl (xs ++ ys) = tl xs ++ tl ys := List.flatMap_append
theorem tl_cons (x : ByteArray) (xs : List ByteArray) : tl (x :: xs) = 45 :: (x.data.toList ++ tl xs) := rfl
theorem tl_one (x : ByteArray) : tl [x] = 45 :: x.data.toList := by simp [tl]
theorem tl_glue : ∀ {xs : List ByteArray}, xs ≠ [] → tl xs = 45 :: glue 45 (xs.map (·.data.toList))
  | [], h => absurd rfl h
  | [x], _ => tl_one x
  | x :: y :: xs, _ => by
    rw [tl_cons, tl_glue (xs := y :: xs) (by simp)]
    rfl
theorem tl_two (s u : ByteArray) : tl [s ++ ⟨#[45]⟩ ++ u] = tl [s, u] := by
  rw [tl_one, tl_cons, tl_one, app_data, app_data]
  simp
/-- What an atom was read from. -/
theorem parse_words {names ps l : List ByteArray} (h : (parseA names ps l).ok = true) :
    (∃ u r, l = u :: r ∧ (parseA names ps l).t = 1 ∧ showB (parseA names ps l).p (parseA names ps l).n ((parseA names ps l).k : Int) = u ∧ (parseA names ps l).p.size + (parseA names ps l).n.size = u.size) ∨
    (∃ s u r, l = s :: u :: r ∧ (parseA names ps l).t = 2 ∧ showB (parseA names ps l).p (parseA names ps l).n ((parseA names ps l).k : Int) = s ++ ⟨#[45]⟩ ++ u ∧ (parseA names ps l).p.size + (parseA names ps l).n.size = u.size) := by
  cases hu : l[(leadP l).2]? with
  | none => unfold parseA at h; rw [hu] at h; cases h
  | some u =>
    have e : parseA names ps l = parseU names ps (leadP l).1 (leadP l).2 u := by unfold parseA; rw [hu]
    rw [e] at h ⊢
    have hs : (sizeP names ps u).2 = true := by
      unfold parseU at h
      split at h
      · assumption
      · cases h
    have e2 : parseU names ps (leadP l).1 (leadP l).2 u = ⟨u.extract 0 (sizeP names ps u).1, restB u (sizeP names ps u).1, (leadP l).1, (leadP l).2 + 1, true⟩ := by unfold parseU; rw [if_pos hs]
    rw [e2]
    have hle := sizeP_le names ps u
    have hj := cut_join u _ hle
    have hz : (u.extract 0 (sizeP names ps u).1).size + (restB u (sizeP names ps u).1).size = u.size := by rw [← ByteArray.size_append, hj]
    rcases leadP_form l with hl | ⟨s, r, hl1, hl2, h1, h2, h3⟩
    · rw [hl] at hu ⊢
      left
      cases l with
      | nil => simp at hu
      | cons u' r =>
        simp at hu
        subst hu
        refine ⟨u', r, rfl, rfl, ?_, hz⟩
        show showB (u'.extract 0 _) (restB u' _) 1 = u'
        unfold showB
        rw [if_neg (by omega), if_pos rfl, hj]
    · rw [hl2] at hu ⊢
      right
      subst hl1
      cases r with
      | nil => simp at hu
      | cons u' r =>
        simp at hu
        subst hu
        refine ⟨s, u', r, rfl, rfl, ?_, hz⟩
        show showB (u'.extract 0 _) (restB u' _) ((powOf s : Nat) : Int) = _
        unfold showB
        rw [if_neg (by omega), if_neg (by omega), hj, Int.toNat_natCast, ← h3, join_two]
theorem atoms_T {names ps : List ByteArray} : ∀ (k : Nat) {l : List ByteArray} {r : List AL} {m : Nat}, l.length ≤ k → atomsL names ps l = some r → (∀ x ∈ l, x.size ≤ m) → tl (showsA r) = tl l ∧ SmallL r m
  | _, [], r, m, _, h, _ => by injection h with h; subst h; exact ⟨rfl, fun a ha => by cases ha⟩
  | 0, u :: l, r, m, hk, h, _ => by simp at hk
  | k + 1, u0 :: l, r, m, hk, h, hm => by
    by_cases e : (parseA names ps (u0 :: l)).ok = true
    · rw [atomsL_more e] at h
      have hw := parse_words e
      obtain ⟨pa, hpa⟩ : ∃ x, parseA names ps (u0 :: l) = x := ⟨_, rfl⟩
      rw [hpa] at h hw
      cases hh : atomsL names ps ((u0 :: l).drop pa.t) with
      | none => rw [hh] at h; cases h
      | some r' =>
        rw [hh] at h
        injection h with h
        have hx : ∀ {xs ys : List ByteArray}, xs.length = pa.t → u0 :: l = xs ++ ys → 0 < pa.t → tl [showB pa.p pa.n (pa.k : Int)] = tl xs → pa.p.size + pa.n.size ≤ m → tl (showsA r) = tl (u0 :: l) ∧ SmallL r m := fun {xs ys} hl hxy h0 ht hs => by
          have hd : (u0 :: l).drop pa.t = ys := by rw [hxy, ← hl, List.drop_left]
          rw [hd] at hh
          have hy : ys.length ≤ k := by
            have := congrArg List.length hxy
            rw [List.length_append, List.length_cons] at this
            simp at hk; omega
          obtain ⟨i1, i2⟩ := atoms_T k hy hh (fun x hx => hm x (by rw [hxy]; exact List.mem_append_right _ hx))
          rw [← h, hxy, tl_app]
          refine ⟨?_, fun a ha => ?_⟩
          · show tl (showB pa.p pa.n (pa.k : Int) :: showsA r') = _
            rw [← i1, ← ht, ← tl_app]; rfl
          · rcases List.mem_cons.1 ha with rfl | ha
            · exact hs
            · exact i2 a ha
        rcases hw with ⟨u, r0, e1, e2, e3, e4⟩ | ⟨s, u, r0, e1, e2, e3, e4⟩
        · refine hx (xs := [u]) (ys := r0) (by rw [e2]; rfl) (by rw [e1]; rfl) (by omega) (by rw [e3]) ?_
          rw [e4]; exact hm u (by rw [e1]; simp)
        · refine hx (xs := [s, u]) (ys := r0) (by rw [e2]; rfl) (by rw [e1]; rfl) (by omega) (by rw [e3, tl_two]) ?_
          rw [e4]; exact hm u (by rw [e1]; simp)
    · rw [atomsL_bad (by simp) (by simpa using e)] at h; cases h
theorem glue_sole {l a : List ByteArray} (h : cutBy perB l = [a]) : l = a := by
  have := glue_cutBy (a := perB) l
  rw [h] at this
  exact this.symm
theorem glue_pair {l a d : List ByteArray} (h : cutBy perB l = [a, d]) : l = a ++ perB :: d := by
  have := glue_cutBy (a := perB) l
  rw [h] at this
  exact this.symm
theorem headD_T (d : List ByteArray) (h : d ≠ []) : ((headD d).1 = oneB ∧ (headD d).2 = d) ∨ ((headD d).1 ≠ oneB ∧ d = (headD d).1 :: (headD d).2) := by
  cases d with
  | nil => exact absurd rfl h
  | cons x d =>
    by_cases e : numW x.data.toList = true ∧ x ≠ oneB
    · right
      have e2 : headD (x :: d) = (x, d) := if_pos e
      rw [e2]; exact ⟨e.2, rfl⟩
    · left
      have e2 : headD (x :: d) = (oneB, x :: d) := if_neg e
      rw [e2]; exact ⟨rfl, rfl⟩
/-- A part is shown as it was read. -/
theorem part_T {names ps l : List ByteArray} {p : PL} {m : Nat} (h : partD names ps l = some p) (hm : ∀ x ∈ l, x.size ≤ m) : tl (partW p) = tl l ∧ SmallL p.1 m ∧ SmallL p.2.1 m ∧ l ≠ [] ∧ partW p ≠ [] := by
  unfold partD at h
  have key : tl (partW p) = tl l → l ≠ [] → partW p ≠ [] := fun h1 h2 h3 => by
    rw [h3] at h1
    cases l with
    | nil => exact h2 rfl
    | cons x l => rw [tl_cons] at h1; cases h1
  match hc : cutBy perB l with
  | [] => rw [hc] at h; cases h
  | _ :: _ :: _ :: _ => rw [hc] at h; cases h
  | [a] =>
    rw [hc, partC_sole] at h
    cases hr : atomsL names ps a with
    | none => rw [hr] at h; cases h
    | some r =>
      rw [hr] at h
      simp only [Option.bind_some] at h
      by_cases h1 : 0 < r.length ∧ r.length ≤ 8
      · rw [if_pos h1] at h
        injection h with h
        subst h
        obtain rfl := glue_sole hc
        obtain ⟨i1, i2⟩ := atoms_T _ (Nat.le_refl _) hr hm
        have e : partW (r, [], oneB) = showsA r := if_pos ⟨rfl, rfl⟩
        have hl : l ≠ [] := fun e0 => by
          subst e0
          injection hr with hr
          subst hr
          exact absurd h1.1 (by decide)
        have h5 : tl (partW (r, [], oneB)) = tl l := by rw [e]; exact i1
        exact ⟨h5, i2, (fun a ha => by cases ha), hl, key h5 hl⟩
      · rw [if_neg h1] at h; cases h
  | [a, d] =>
    rw [hc, partC_two] at h
    by_cases h0 : d = []
    · rw [if_pos h0] at h; cases h
    · rw [if_neg h0] at h
      cases hr : atomsL names ps a with
      | none => rw [hr] at h; cases h
      | some r =>
        cases hs : atomsL names ps (headD d).2 with
        | none => rw [hr, hs] at h; cases h
        | some s =>
          rw [hr, hs] at h
          simp only [Option.bind_some] at h
          by_cases h1 : r.length + s.length ≤ 8
          · rw [if_pos h1] at h
            injection h with h
            subst h
            have hg := glue_pair hc
            have hl : l ≠ [] := by rw [hg]; simp
            have hma : ∀ x ∈ a, x.size ≤ m := fun x hx => hm x (by rw [hg]; exact List.mem_append_left _ hx)
            have hmd : ∀ x ∈ (headD d).2, x.size ≤ m := fun x hx => hm x (by
              rw [hg]
              refine List.mem_append_right _ (List.mem_cons_of_mem _ ?_)
              rcases headD_T d h0 with ⟨_, e⟩ | ⟨_, e⟩
              · rw [e] at hx; exact hx
              · rw [e]; exact List.mem_cons_of_mem _ hx)
            obtain ⟨i1, i2⟩ := atoms_T _ (Nat.le_refl _) hr hma
            obtain ⟨j1, j2⟩ := atoms_T _ (Nat.le_refl _) hs hmd
            have h5 : tl (partW (r, s, (headD d).1)) = tl l := by
              rcases headD_T d h0 with ⟨e1, e2⟩ | ⟨e1, e2⟩
              · rw [e2] at hs j1
                have hs0 : s ≠ [] := fun e0 => by
                  have := atomsL_pos hs h0
                  rw [e0] at this
                  exact absurd this (by decide)
                have e3 : partW (r, s, (headD d).1) = showsA r ++ [perB] ++ showsA s := by
                  rw [e1]
                  exact (if_neg (fun k => hs0 k.1)).trans (if_pos rfl)
                rw [e3, tl_app, tl_app, i1, j1, hg, tl_app]
                rw [show perB :: d = [perB] ++ d from rfl, tl_app, List.append_assoc]
              · have e3 : partW (r, s, (headD d).1) = showsA r ++ [perB] ++ [(headD d).1] ++ showsA s :=
                  (if_neg (fun k => e1 k.2)).trans (if_neg e1)
                rw [e3, tl_app, tl_app, tl_app, i1, j1, hg, tl_app]
                rw [show perB :: d = [perB] ++ ([(headD d).1] ++ (headD d).2) from by rw [show [(headD d).1] ++ (headD d).2 = d from e2.symm]; rfl, tl_app, tl_app]
                simp only [List.append_assoc]
            exact ⟨h5, i2, j2, hl, key h5 hl⟩
          · rw [if_neg h1] at h; cases h
theorem partS_T {names ps l : List ByteArray} {p : PL} {m : Nat} (h : partD names ps l = some p) (hm : ∀ x ∈ l, x.size ≤ m) : 45 :: (partS p).data.toList = tl l := by
  obtain ⟨h1, _, _, _, h5⟩ := part_T h hm
  rw [← h1, tl_glue h5]; rfl
theorem parts_T {names ps : List ByteArray} {m : Nat} : ∀ {css : List (List ByteArray)} {r : List PL}, css ≠ [] → partsL names ps css = some r → (∀ l ∈ css, ∀ x ∈ l, x.size ≤ m) →
    45 :: Lib.join ((r.map partS).map (·.data.toList)) sepB.data.toList = tl (glue andB css)
  | [], _, h, _, _ => absurd rfl h
  | [l], r, _, h, hm => by
    unfold partsL at h
    cases hp : partD names ps l with
    | none => rw [hp] at h; cases h
    | some p =>
      rw [hp] at h
      injection h with h
      subst h
      show 45 :: Lib.join [(partS p).data.toList] _ = tl l
      rw [Lib.join_one]
      exact partS_T hp (hm l (by simp))
  | l :: l2 :: css, r, _, h, hm => by
    unfold partsL at h
    cases hp : partD names ps l with
    | none => rw [hp] at h; cases h
    | some p =>
      rw [hp] at h
      simp only [Option.bind_some] at h
      cases hr : partsL names ps (l2 :: css) with
      | none => rw [hr] at h; cases h
      | some r' =>
        rw [hr] at h
        injection h with h
        have ih := parts_T (by simp) hr (fun l' hl' => hm l' (List.mem_cons_of_mem _ hl'))
        have h1 := partS_T hp (hm l (by simp))
        have hlen := partsL_len hr
        cases r' with
        | nil => simp at hlen
        | cons p2 r2 =>
          rw [← h]
          show 45 :: Lib.join ((partS p).data.toList :: ((p2 :: r2).map partS).map (·.data.toList)) sepB.data.toList = tl (l ++ andB :: glue andB (l2 :: css))
          rw [show andB :: glue andB (l2 :: css) = [andB] ++ glue andB (l2 :: css) from rfl, tl_app, tl_app, ← ih, ← h1, tl_one]
          rw [Lib.join_cons]
          show 45 :: ((partS p).data.toList ++ Lib.joinTail _ ((partS p2).data.toList :: (r2.map partS).map (·.data.toList))) = _
          rw [show ((p2 :: r2).map partS).map (·.data.toList) = (partS p2).data.toList :: (r2.map partS).map (·.data.toList) from rfl, Lib.join_cons]
          unfold Lib.joinTail
          rw [List.map_cons, List.flatten_cons]
          show _ = 45 :: (partS p).data.toList ++ (45 :: andB.data.toList ++ (45 :: ((partS p2).data.toList ++ _)))
          rw [show sepB.data.toList = 45 :: andB.data.toList ++ [45] from by decide +kernel]
          simp
/-- A unit that is read is shown as it was. -/
theorem unit_back {names ps : List ByteArray} {s : ByteArray} {r : List PL} (h : unitD names ps s = .ok r) : unitS r = s := by
  obtain ⟨h1, h2, h3, h4⟩ := unitD_ok h
  have hm : ∀ l ∈ cutBy andB (pcs s), ∀ x ∈ l, x.size ≤ 20 := fun l hl x hx => goodAll_size h2 x (cutBy_mem _ l hl x hx)
  have hne : pcs s ≠ [] := fun e => by have := pcs_len s; rw [e] at this; simp at this
  have h5 := parts_T (cutBy_ne _) h3 hm
  rw [glue_cutBy, tl_glue hne, pcs_parts] at h5
  have h6 : glue 45 (parts s.data.toList) = s.data.toList := glue_cutBy _
  rw [h6, ← unitS_join] at h5
  injection h5 with _ h5
  exact ByteArray.ext (Array.ext' h5)
theorem map_back {r : List PL} (h : ∀ p ∈ r, okP p) : (r.map ofP).map toP = r := by
  rw [List.map_map]
  conv => rhs; rw [← List.map_id r]
  exact List.map_congr_left fun p hp => toP_ofP (h p hp)
theorem sameA_self (l : List AL) : sameA l l = true := decide_eq_true rfl
theorem sameQ_self (p : PL) : sameQ (ofP p) (ofP p) = true := by
  unfold sameQ
  rw [sameA_self, sameA_self, decide_eq_true rfl]
  show (goodB (digs W32 _) && _) = true
  rw [goodB_digs]; rfl
theorem sameQs_self : ∀ r : List PL, sameQs (r.map ofP) (r.map ofP) = true
  | [] => rfl
  | p :: r => by
    show (sameQ (ofP p) (ofP p) && sameQs (r.map ofP) (r.map ofP)) = true
    rw [sameQ_self, sameQs_self r]; rfl
theorem great_of {names ps l : List ByteArray} {p : PL} (h : partD names ps l = some p) (hm : ∀ x ∈ l, x.size ≤ 20) : greatQ (ofP p) = false := by
  obtain ⟨_, h2, h3, _, _⟩ := part_T h hm
  have h4 : okP p ∧ p.1.length + p.2.1.length ≤ 8 := partC_ok h
  have h5 : (digs W32 (nuOf p.2.2)).length ≤ 3 := numW_dl h4.1
  have a1 : ∀ {l : List AL}, SmallL l 20 → l.any longA = false := fun {l} hs => by
    rw [List.any_eq_false]
    intro a ha
    unfold longA
    have := hs a ha
    simp; omega
  unfold greatQ
  show (decide (3 < (digs W32 (nuOf p.2.2)).length) || (decide (8 < p.1.length + p.2.1.length) || (p.1.any longA || p.2.1.any longA))) = false
  rw [a1 h2, a1 h3, decide_eq_false (by omega), decide_eq_false (by omega)]; rfl
theorem greats_of {names ps : List ByteArray} : ∀ {css : List (List ByteArray)} {r : List PL}, partsL names ps css = some r → (∀ l ∈ css, ∀ x ∈ l, x.size ≤ 20) → (r.map ofP).any greatQ = false
  | [], r, h, _ => by injection h with h; subst h; rfl
  | l :: css, r, h, hm => by
    unfold partsL at h
    cases hp : partD names ps l with
    | none => rw [hp] at h; cases h
    | some p =>
      cases hr : partsL names ps css with
      | none => rw [hp, hr] at h; cases h
      | some r' =>
        rw [hp, hr] at h
        injection h with h
        rw [← h]
        show (greatQ (ofP p) || (r'.map ofP).any greatQ) = false
        rw [great_of hp (hm l (by simp)), greats_of hr (fun l' hl' => hm l' (List.mem_cons_of_mem _ hl'))]; rfl
/-- A unit that was read may be. -/
theorem goodU_back {names ps : List ByteArray} {s : ByteArray} {r : List PL} (h : unitD names ps s = .ok r) : goodU names ps (r.map ofP) = true := by
  obtain ⟨h1, h2, h3, h4⟩ := unitD_ok h
  have hm : ∀ l ∈ cutBy andB (pcs s), ∀ x ∈ l, x.size ≤ 20 := fun l hl x hx => goodAll_size h2 x (cutBy_mem _ l hl x hx)
  unfold goodU
  rw [List.length_map, decide_eq_true h4, greats_of h3 hm, map_back (fun p hp => (partsL_ok h3 p hp).1), unit_back h, h]
  exact sameQs_self r
end Go.Proofs.YthdpojkeceoiiaaDoor
end
