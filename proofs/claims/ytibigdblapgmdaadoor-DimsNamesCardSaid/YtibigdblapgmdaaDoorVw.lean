/- DimsNames: the walk. No conditions. -/
import Derived.Test.YtibigdblapgmdaaDoorVj
import Derived.Test.YtibigdblapgmdaaDoorVo
import Derived.Test.YtibigdblapgmdaaDoorVp
import Derived.Test.YtibigdblapgmdaaDoorVq
import Derived.Deep.RegionHeld3
import Derived.Deep.RegionWith
open Go.RowKit
set_option maxRecDepth 100000
namespace Go.Proofs.YtibigdblapgmdaaDoor
section
variable {A A' : Option Addr} {n c n' c' : Nat} {ws : List V8} {xs : List ByteArray}
theorem names_long (w : World) (h : 20 < n) : Calls Tryd.prog 5 #[.slice A n c, .slice A' n' c'] w (RetV w true) := by
  have d : decide ((20 : Int) < (n : Int)) = true := decide_eq_true (by omega)
  clear h
  go_enter Tryd.func5, Tryd.ntmps5
  go_wp2_with (first | (go_at_call 7; (with_reducible refine (vawake_h _).mono ?_); rintro e w1 ⟨rfl, hb⟩) | fail)
  go_ret
  exact ⟨rfl, hb⟩
theorem names_few (w : World) (h1 : n ≤ 20) (h : n' < n) : Calls Tryd.prog 5 #[.slice A n c, .slice A' n' c'] w (RetV w true) := by
  have d : decide ((20 : Int) < (n : Int)) = false := decide_eq_false (by omega)
  have d2 : decide ((n' : Int) < (n : Int)) = true := decide_eq_true (by omega)
  clear h1
  go_enter Tryd.func5, Tryd.ntmps5
  go_wp2_with (first | (go_at_call 7; (with_reducible refine (vawake_h _).mono ?_); rintro e w1 ⟨rfl, hb⟩) | fail)
  go_ret
  exact ⟨rfl, hb⟩
end
def selV (f : Nat → V8) (g : Nat → ByteArray) (i : Nat) : List Value := (sel f g i).map fun (j : Nat) => Value.int .i64 (j : Int)
set_option maxHeartbeats 8000000 in
theorem names_walk {ad ad' : Addr} {n c n' c' : Nat} {f : Nat → V8} {g : Nat → ByteArray} (w : World) (hn : n ≤ 20) (hn' : n ≤ n') (hc : n ≤ c)
    (hb1 : ad.block < w.heap.size) (hb2 : ad'.block < w.heap.size)
    (hf : ∀ j, j < n → ∀ i, i < 8 → w.cell? ((ad.add (j * 8)).add i) = some (.int .i64 ((f j).at_ i))) (hwf : ∀ j, j < n → (f j).wf)
    (hg : ∀ j, j < n → w.cell? (ad'.add j) = some (.string (g j))) :
    Calls Tryd.prog 5 #[.slice (some ad) n c, .slice (some ad') n' c'] w (RetV w true) := by
  have d : decide ((20 : Int) < (n : Int)) = false := decide_eq_false (by omega)
  have d2 : decide ((n' : Int) < (n : Int)) = false := decide_eq_false (by omega)
  have HFC := vhide hf; have HGC := vhide hg; have HWF := vhide hwf; have H1 := vhide hb1; have H2 := vhide hb2
  obtain ⟨i0, hi, hz0, hz1, hz2⟩ := info_parts vinfoInt
  have J0 := vhide hi; have Y0 := vhide hz0; have Y1 := vhide hz1; have Y2 := vhide hz2
  clear hf hg hwf hb1 hb2 hi hz0 hz1 hz2
  go_enter Tryd.func5, Tryd.ntmps5
  go_wp2_with (first
    | (go_at_call 7; (with_reducible refine (vawake_h _).mono ?_); rintro e w1 ⟨rfl, hb⟩)
    | (go_at_call 11; (with_reducible refine (newNames_h _).mono ?_); rintro e w2 ⟨p, b, rfl, HN, hbn⟩; have HBS : Hid (w.heap.size ≤ w1.heap.size) := hb.out.size; replace hb : Hid (Below w.heap.size w w2) := hb.out.trans (hbn.out.mono hb.out.size); have HS : Hid (w1.heap.size ≤ w2.heap.size) := hbn.out.size; clear hbn)
    | fail)
  obtain ⟨base, hbase⟩ : ∃ x, x = w1.heap.size := ⟨_, rfl⟩
  rw [← hbase] at HN HS HBS
  clear hbase
  go_loopw [6, 7] (fun pv iv wr => ∃ (i m : Nat) (PA : Option Addr) (cp : Nat) (NA : Option Addr) (ncp : Nat), i ≤ n ∧ m ≤ i ∧ iv = .int .i64 (i : Int) ∧ pv = .slice PA m cp ∧ Hid (m = (sel f g i).length) ∧ Hid (OI base wr (.slice PA m cp) m (selV f g i)) ∧ Hid (Nms base wr p b NA ncp m ((sel f g i).map f) ((sel f g i).map g)) ∧ Hid (Below w.heap.size w wr) ∧ Hid (base ≤ wr.heap.size)) (fun _ iv _ => n - (intOf iv).toNat)
  case atStart => exact ⟨0, 0, none, 0, none, 0, by omega, by omega, rfl, rfl, rfl, World.ownsRow_nil _ _ _ _, HN, hb, HS⟩
  case round =>
    obtain ⟨i, m, PA, cp, NA, ncp, hi, hmi, rfl, rfl, HM, HO, HNm, HW, HSz⟩ := hrel
    clear HN HS hb
    obtain ⟨wo, rfl⟩ : ∃ X, X = wr := ⟨wr, rfl⟩
    by_cases hlt : i < n
    · have gs := (HW.out.cell (p := ad'.add i) (by rw [yblock_add]; exact H2.out)).trans (HGC.out i hlt)
      obtain ⟨s, hs⟩ : ∃ s, s = g i := ⟨_, rfl⟩
      rw [← hs] at gs
      have HSS := vhide hs
      clear hs
      have hin' : i < n' := by omega
      have wi : IntKind.i64.wrap ((i : Int) + 1) = (i : Int) + 1 := IntWalk.i64_in _ (by omega)
      have di : decide ((i : Int) < (n : Int)) = true := decide_eq_true (by omega)
      go_wp2_with fail
      go_loopw [8, 9] (fun tv kv wr => ∃ (k : Nat) (t : Bool), k ≤ m ∧ kv = .int .i64 (k : Int) ∧ tv = .bool t ∧ Hid (t = dupTo f g (sel f g i) i k) ∧ Hid (Below wo.heap.size wo wr)) (fun _ kv _ => m - (intOf kv).toNat)
      case atStart => exact ⟨0, _, by omega, rfl, rfl, by unfold Hid; rw [dupTo_zero, ← HSS.out], Below.refl _ _⟩
      case round =>
        obtain ⟨k, t, hk, rfl, rfl, HT, HQ⟩ := hrel
        have HWQ : Hid (Below w.heap.size w wr) := HW.out.trans (HQ.out.mono HW.out.size)
        by_cases hkm : k < m
        · have wk : IntKind.i64.wrap ((k : Int) + 1) = (k : Int) + 1 := IntWalk.i64_in _ (by omega)
          have dk : decide ((k : Int) < (m : Int)) = true := decide_eq_true (by omega)
          obtain ⟨j, hj⟩ : ∃ j, (sel f g i)[k]? = some j := ⟨_, List.getElem?_eq_getElem (by rw [← HM.out]; exact hkm)⟩
          have hji : j < i := sel_lt f g i j (List.mem_of_getElem? hj)
          have HTS := vhide (dupTo_succ (f := f) (g := g) (i := i) hj)
          cases t with
          | true =>
            have HT2 : Hid (true = dupTo f g (sel f g i) i (k + 1)) := by unfold Hid; rw [HTS.out, ← HT.out]; rfl
            clear hj HTS
            go_wp2_with fail
            go_quiet (fail)
            go_wp2
            go_roundw
            case rel => exact ⟨k + 1, true, by omega, by go_num, rfl, HT2, ybelow_drewN HQ.out nq⟩
            case measure => simp [intOf]; omega
          | false =>
            obtain ⟨gb, hPA, gk⟩ := oi_cell (vown_up HO.out HQ) (k := k) (y := .int .i64 (j : Int)) (by rw [selV, List.getElem?_map, hj]; rfl)
            obtain ⟨y, hy⟩ : ∃ y, y = f j := ⟨_, rfl⟩
            obtain ⟨x, hx⟩ : ∃ x, x = f i := ⟨_, rfl⟩
            have cy : ∀ q, q < 8 → wr.cell? ((ad.add (j * 8)).add q) = some (.int .i64 (y.at_ q)) := fun q hq => (HWQ.out.cell (by rw [yblock_add, yblock_add]; exact H1.out)).trans (by rw [hy]; exact HFC.out j (by omega) q hq)
            have cx : ∀ q, q < 8 → wr.cell? ((ad.add (i * 8)).add q) = some (.int .i64 (x.at_ q)) := fun q hq => (HWQ.out.cell (by rw [yblock_add, yblock_add]; exact H1.out)).trans (by rw [hx]; exact HFC.out i hlt q hq)
            obtain ⟨y0, y1, y2, y3, y4, y5, y6, y7⟩ := v8_cells cy
            obtain ⟨x0, x1, x2, x3, x4, x5, x6, x7⟩ := v8_cells cx
            obtain ⟨e, he⟩ : ∃ e, e = decide (y = x) := ⟨_, rfl⟩
            have q1 := veq_a y x
            rw [← he] at q1
            have HT2 : Hid (e = dupTo f g (sel f g i) i (k + 1)) := by unfold Hid; rw [HTS.out, ← HT.out, he, hy, hx]; rfl
            clear hj HTS hy hx cy cx he
            subst hPA
            have hjn : j < n := by omega
            go_wp2_with fail
            go_quiet (fail)
            go_wp2
            go_roundw
            case rel => exact ⟨k + 1, e, by omega, by go_num, rfl, HT2, ybelow_drewN HQ.out nq⟩
            case measure => simp [intOf]; omega
        · obtain rfl : k = m := by omega
          have HT2 : Hid (t = dupB f g (sel f g i) i) := by unfold Hid; rw [HT.out, ← dupTo_all]; rw [HM.out]
          clear HT
          have dk : decide ((k : Int) < (k : Int)) = false := decide_eq_false (by omega)
          obtain ⟨x, hx⟩ : ∃ x, x = f i := ⟨_, rfl⟩
          have HXX := vhide hx
          have hxw : x.wf := by rw [hx]; exact HWF.out i hlt
          replace HO := vown_up HO.out HQ
          replace HNm := HNm.up HQ
          replace HSz : Hid (base ≤ wr.heap.size) := Nat.le_trans HSz.out HQ.out.size
          have hgs : wr.cell? (ad'.add i) = some (.string s) := (HQ.out.cell (by rw [yblock_add]; exact Nat.lt_of_lt_of_le H2.out HW.out.size)).trans gs
          have cx : ∀ q, q < 8 → wr.cell? ((ad.add (i * 8)).add q) = some (.int .i64 (x.at_ q)) := fun q hq => (HWQ.out.cell (by rw [yblock_add, yblock_add]; exact H1.out)).trans (by rw [hx]; exact HFC.out i hlt q hq)
          have HCX := vhide (v8_cells cx)
          clear hx cx HQ HW gs
          go_wp2_with fail
          cases t with
          | true =>
            have HS2 := sel_dup f g HT2.out.symm
            have CP : Hid (∀ V, Nms base V p b NA ncp k ((sel f g i).map f) ((sel f g i).map g) → Calls Tryd.prog 12 #[.pointer (some ⟨p, 0, none⟩), x.v, .string s] V (RetV V false)) := fun V hV => by
              rcases dup_yes f g HT2.out.symm with h | ⟨h, h'⟩
              · exact put_taken hV hxw (by rw [HXX.out]; exact h)
              · rw [HSS.out, h']; exact put_empty hV hxw (by rw [HXX.out]; exact h)
            have HSD := vhide HS2
            clear HS2 hxw
            have hZ : w.heap.size ≤ wr.heap.size := HWQ.out.size
            have hI0 : (ad.add (i * 8)).block < wr.drew.heap.size := by rw [yblock_add]; exact Nat.lt_of_lt_of_le H1.out HWQ.out.size
            have hI2 : (ad'.add i).block < wr.drew.heap.size := by rw [yblock_add]; exact Nat.lt_of_lt_of_le H2.out HWQ.out.size
            replace HO := vown_up HO (vhide (((Below.refl wr.heap.size wr)).drew))
            replace HNm := HNm.up (vhide (((Below.refl wr.heap.size wr)).drew))
            replace HWQ : Hid (Below w.heap.size w wr.drew) := HWQ.out.drew
            replace HSz : Hid (base ≤ wr.drew.heap.size) := HSz
            replace HCX : Hid _ := keep8 HCX ((Below.refl wr.heap.size wr).drew) (by rw [yblock_add]; exact Nat.lt_of_lt_of_le H1.out hZ)
            replace hgs : wr.drew.cell? (ad'.add i) = some (.string s) := hgs
            refine wp_region_held_drew (S := fun w' => w'.cell? (ad'.add i) = some (.string s) ∧ w'.cell? (ad.add (i * 8)) = some (.int .i64 x.x0) ∧ w'.cell? ⟨(ad.add (i * 8)).block, (ad.add (i * 8)).off + 1, none⟩ = some (.int .i64 x.x1) ∧ w'.cell? ⟨(ad.add (i * 8)).block, (ad.add (i * 8)).off + 2, none⟩ = some (.int .i64 x.x2) ∧ w'.cell? ⟨(ad.add (i * 8)).block, (ad.add (i * 8)).off + 3, none⟩ = some (.int .i64 x.x3) ∧ w'.cell? ⟨(ad.add (i * 8)).block, (ad.add (i * 8)).off + 4, none⟩ = some (.int .i64 x.x4) ∧ w'.cell? ⟨(ad.add (i * 8)).block, (ad.add (i * 8)).off + 5, none⟩ = some (.int .i64 x.x5) ∧ w'.cell? ⟨(ad.add (i * 8)).block, (ad.add (i * 8)).off + 6, none⟩ = some (.int .i64 x.x6) ∧ w'.cell? ⟨(ad.add (i * 8)).block, (ad.add (i * 8)).off + 7, none⟩ = some (.int .i64 x.x7)) (by kernel_rfl) ?_ (fun hHeld => ?_)
            · exact ⟨hgs, HCX.out⟩
            clear hZ
            generalize wr.drew = wd at *
            (refine wpAnyH_take (i := 0) (v := ?_) rfl (by decide +kernel) (by decide +kernel) (by decide +kernel) (fun _ _ _ h => h) (Or.inl ⟨by rfl, ?_⟩) (by assumption) ?_; rotate_left; (focus ((intro w hSw; (try dsimp only at hSw); go_simp); (try (with_reducible rfl)); done)); (try simp only [List.getElem_toArray, List.getElem_cons_zero, List.getElem_cons_succ, Act.put, List.setIfInBounds_toArray, List.set_cons_zero, List.set_cons_succ]))
            (refine wpAnyH_take (i := 1) (v := ?_) rfl (by decide +kernel) (by decide +kernel) (by decide +kernel) (fun _ _ _ h => h) (Or.inl ⟨by rfl, ?_⟩) (by assumption) ?_; rotate_left; (focus ((intro w hSw; (try dsimp only at hSw); go_simp); (try (with_reducible rfl)); done)); (try simp only [List.getElem_toArray, List.getElem_cons_zero, List.getElem_cons_succ, Act.put, List.setIfInBounds_toArray, List.set_cons_zero, List.set_cons_succ]))
            (refine wpAnyH_take (i := 2) (v := ?_) rfl (by decide +kernel) (by decide +kernel) (by decide +kernel) (fun _ _ _ h => h) (Or.inl ⟨by rfl, ?_⟩) (by assumption) ?_; rotate_left; (focus ((intro w hSw; (try dsimp only at hSw); go_simp); (try (with_reducible rfl)); done)); (try simp only [List.getElem_toArray, List.getElem_cons_zero, List.getElem_cons_succ, Act.put, List.setIfInBounds_toArray, List.set_cons_zero, List.set_cons_succ]))
            (refine wpAnyH_take (i := 3) (v := ?_) rfl (by decide +kernel) (by decide +kernel) (by decide +kernel) (fun _ _ _ h => h) (Or.inl ⟨by rfl, ?_⟩) (by assumption) ?_; rotate_left; (focus ((intro w hSw; (try dsimp only at hSw); go_simp); (try (with_reducible rfl)); done)); (try simp only [List.getElem_toArray, List.getElem_cons_zero, List.getElem_cons_succ, Act.put, List.setIfInBounds_toArray, List.set_cons_zero, List.set_cons_succ]))
            (refine wpAnyH_take (i := 4) (v := ?_) rfl (by decide +kernel) (by decide +kernel) (by decide +kernel) (fun _ _ _ h => h) (Or.inl ⟨by rfl, ?_⟩) (by assumption) ?_; rotate_left; (focus ((intro w hSw; (try dsimp only at hSw); go_simp); (try (with_reducible rfl)); done)); (try simp only [List.getElem_toArray, List.getElem_cons_zero, List.getElem_cons_succ, Act.put, List.setIfInBounds_toArray, List.set_cons_zero, List.set_cons_succ]))
            (refine wpAnyH_take (i := 5) (v := ?_) rfl (by decide +kernel) (by decide +kernel) (by decide +kernel) (fun _ _ _ h => h) (Or.inl ⟨by rfl, ?_⟩) (by assumption) ?_; rotate_left; (focus ((intro w hSw; (try dsimp only at hSw); go_simp); (try (with_reducible rfl)); done)); (try simp only [List.getElem_toArray, List.getElem_cons_zero, List.getElem_cons_succ, Act.put, List.setIfInBounds_toArray, List.set_cons_zero, List.set_cons_succ]))
            (refine wpAnyH_take (i := 6) (v := ?_) rfl (by decide +kernel) (by decide +kernel) (by decide +kernel) (fun _ _ _ h => h) (Or.inl ⟨by rfl, ?_⟩) (by assumption) ?_; rotate_left; (focus ((intro w hSw; (try dsimp only at hSw); go_simp); (try (with_reducible rfl)); done)); (try simp only [List.getElem_toArray, List.getElem_cons_zero, List.getElem_cons_succ, Act.put, List.setIfInBounds_toArray, List.set_cons_zero, List.set_cons_succ]))
            (refine wpAnyH_take (i := 7) (v := ?_) rfl (by decide +kernel) (by decide +kernel) (by decide +kernel) (fun _ _ _ h => h) (Or.inl ⟨by rfl, ?_⟩) (by assumption) ?_; rotate_left; (focus ((intro w hSw; (try dsimp only at hSw); go_simp); (try (with_reducible rfl)); done)); (try simp only [List.getElem_toArray, List.getElem_cons_zero, List.getElem_cons_succ, Act.put, List.setIfInBounds_toArray, List.set_cons_zero, List.set_cons_succ]))
            (refine wpAnyH_take (i := 8) (v := ?_) rfl (by decide +kernel) (by decide +kernel) (by decide +kernel) (fun _ _ _ h => h) (Or.inl ⟨by rfl, ?_⟩) (by assumption) ?_; rotate_left; (focus ((intro w hSw; (try dsimp only at hSw); go_simp); (try (with_reducible rfl)); done)); (try simp only [List.getElem_toArray, List.getElem_cons_zero, List.getElem_cons_succ, Act.put, List.setIfInBounds_toArray, List.set_cons_zero, List.set_cons_succ]))
            (refine wpAnyH_take (i := 10) (v := ?_) rfl (by decide +kernel) (by decide +kernel) (by decide +kernel) (fun _ _ _ h => h) (Or.inl ⟨by rfl, ?_⟩) (by assumption) ?_; rotate_left; (focus ((intro w hSw; (try dsimp only at hSw); go_simp); (try (with_reducible rfl)); done)); (try simp only [List.getElem_toArray, List.getElem_cons_zero, List.getElem_cons_succ, Act.put, List.setIfInBounds_toArray, List.set_cons_zero, List.set_cons_succ]))
            (refine wpAnyH_ready (rs := [9]) (by decide +kernel) (by simp) ?_; refine AllReadyH.cons rfl (fun K hK => ?_) AllReadyH.nil; go_simp; (go_at_call 12; (with_reducible refine (CP.out _ HNm).mono ?_); rintro e x1 ⟨rfl, hbk⟩; replace HO := vown_up HO hbk; replace HNm := HNm.up hbk; have hgs2 := (hbk.out.cell (show (ad'.add i).block < _ from hI2)).trans hgs; replace HCX : Hid _ := keep8 HCX hbk.out hI0; replace HWQ : Hid (Below w.heap.size w x1) := HWQ.out.trans (hbk.out.mono HWQ.out.size); replace HSz : Hid (base ≤ x1.heap.size) := Nat.le_trans HSz.out hbk.out.size; clear hgs hI0 hI2 hbk; have hgs := hgs2; clear hgs2); (try (go_wp2_with fail)); refine hK.out _ _ ?_ (fun hHeld => ?_); (focus ((try dsimp only); exact ⟨hgs, HCX.out⟩)); clear hK K; (try simp only [List.getElem_toArray, List.getElem_cons_zero, List.getElem_cons_succ, Act.put, List.setIfInBounds_toArray, List.set_cons_zero, List.set_cons_succ]))
            (refine wpAnyH_take (i := 11) (v := ?_) rfl (by decide +kernel) (by decide +kernel) (by decide +kernel) (fun _ _ _ h => h) (Or.inl ⟨by rfl, ?_⟩) (by assumption) ?_; rotate_left; (focus ((intro w hSw; (try dsimp only at hSw); go_simp); (try (with_reducible rfl)); done)); (try simp only [List.getElem_toArray, List.getElem_cons_zero, List.getElem_cons_succ, Act.put, List.setIfInBounds_toArray, List.set_cons_zero, List.set_cons_succ]))
            refine wpAnyH_done (by decide +kernel) ?_ _
            go_wp2_with fail
            go_roundw
            case rel => exact ⟨i + 1, k, PA, cp, NA, ncp, by omega, by omega, by go_num, rfl, by unfold Hid; rw [HSD.out]; exact HM, by unfold selV; rw [HSD.out]; exact HO, by rw [HSD.out]; exact HNm, HWQ, HSz⟩
            case measure => simp [intOf]; omega
          | false =>
            have HSD := vhide (sel_new f g HT2.out.symm)
            obtain ⟨hse, hnm⟩ := dup_no f g HT2.out.symm
            have CP : Hid (∀ V, Nms base V p b NA ncp k ((sel f g i).map f) ((sel f g i).map g) → base ≤ V.heap.size → Calls Tryd.prog 12 #[.pointer (some ⟨p, 0, none⟩), x.v, .string s] V (fun e w' => e = .returned (.bool true) ∧ ∃ A' cp', Nms base w' p b A' cp' (k + 1) ((sel f g i).map f ++ [x]) ((sel f g i).map g ++ [s]) ∧ KeepT base V w')) := fun V hV hVb =>
              put_new hV hVb (by omega) hxw (by rw [HXX.out]; exact hnm) (by rw [HSS.out]; exact hse)
            clear hse hnm hxw
            have hZ : w.heap.size ≤ wr.heap.size := HWQ.out.size
            have hI0 : (ad.add (i * 8)).block < base := by rw [yblock_add]; exact Nat.lt_of_lt_of_le H1.out HBS.out
            have hI2 : (ad'.add i).block < base := by rw [yblock_add]; exact Nat.lt_of_lt_of_le H2.out HBS.out
            replace HO := vown_up HO (vhide (((Below.refl wr.heap.size wr)).drew))
            replace HNm := HNm.up (vhide (((Below.refl wr.heap.size wr)).drew))
            replace HWQ : Hid (Below w.heap.size w wr.drew) := HWQ.out.drew
            replace HSz : Hid (base ≤ wr.drew.heap.size) := HSz
            replace HCX : Hid _ := keep8 HCX ((Below.refl wr.heap.size wr).drew) (by rw [yblock_add]; exact Nat.lt_of_lt_of_le H1.out hZ)
            replace hgs : wr.drew.cell? (ad'.add i) = some (.string s) := hgs
            refine wp_region_held_drew (S := fun w' => w'.cell? (ad'.add i) = some (.string s) ∧ w'.cell? (ad.add (i * 8)) = some (.int .i64 x.x0) ∧ w'.cell? ⟨(ad.add (i * 8)).block, (ad.add (i * 8)).off + 1, none⟩ = some (.int .i64 x.x1) ∧ w'.cell? ⟨(ad.add (i * 8)).block, (ad.add (i * 8)).off + 2, none⟩ = some (.int .i64 x.x2) ∧ w'.cell? ⟨(ad.add (i * 8)).block, (ad.add (i * 8)).off + 3, none⟩ = some (.int .i64 x.x3) ∧ w'.cell? ⟨(ad.add (i * 8)).block, (ad.add (i * 8)).off + 4, none⟩ = some (.int .i64 x.x4) ∧ w'.cell? ⟨(ad.add (i * 8)).block, (ad.add (i * 8)).off + 5, none⟩ = some (.int .i64 x.x5) ∧ w'.cell? ⟨(ad.add (i * 8)).block, (ad.add (i * 8)).off + 6, none⟩ = some (.int .i64 x.x6) ∧ w'.cell? ⟨(ad.add (i * 8)).block, (ad.add (i * 8)).off + 7, none⟩ = some (.int .i64 x.x7)) (by kernel_rfl) ?_ (fun hHeld => ?_)
            · exact ⟨hgs, HCX.out⟩
            clear hZ
            generalize wr.drew = wd at *
            (refine wpAnyH_take (i := 0) (v := ?_) rfl (by decide +kernel) (by decide +kernel) (by decide +kernel) (fun _ _ _ h => h) (Or.inl ⟨by rfl, ?_⟩) (by assumption) ?_; rotate_left; (focus ((intro w hSw; (try dsimp only at hSw); go_simp); (try (with_reducible rfl)); done)); (try simp only [List.getElem_toArray, List.getElem_cons_zero, List.getElem_cons_succ, Act.put, List.setIfInBounds_toArray, List.set_cons_zero, List.set_cons_succ]))
            (refine wpAnyH_take (i := 1) (v := ?_) rfl (by decide +kernel) (by decide +kernel) (by decide +kernel) (fun _ _ _ h => h) (Or.inl ⟨by rfl, ?_⟩) (by assumption) ?_; rotate_left; (focus ((intro w hSw; (try dsimp only at hSw); go_simp); (try (with_reducible rfl)); done)); (try simp only [List.getElem_toArray, List.getElem_cons_zero, List.getElem_cons_succ, Act.put, List.setIfInBounds_toArray, List.set_cons_zero, List.set_cons_succ]))
            (refine wpAnyH_take (i := 2) (v := ?_) rfl (by decide +kernel) (by decide +kernel) (by decide +kernel) (fun _ _ _ h => h) (Or.inl ⟨by rfl, ?_⟩) (by assumption) ?_; rotate_left; (focus ((intro w hSw; (try dsimp only at hSw); go_simp); (try (with_reducible rfl)); done)); (try simp only [List.getElem_toArray, List.getElem_cons_zero, List.getElem_cons_succ, Act.put, List.setIfInBounds_toArray, List.set_cons_zero, List.set_cons_succ]))
            (refine wpAnyH_take (i := 3) (v := ?_) rfl (by decide +kernel) (by decide +kernel) (by decide +kernel) (fun _ _ _ h => h) (Or.inl ⟨by rfl, ?_⟩) (by assumption) ?_; rotate_left; (focus ((intro w hSw; (try dsimp only at hSw); go_simp); (try (with_reducible rfl)); done)); (try simp only [List.getElem_toArray, List.getElem_cons_zero, List.getElem_cons_succ, Act.put, List.setIfInBounds_toArray, List.set_cons_zero, List.set_cons_succ]))
            (refine wpAnyH_take (i := 4) (v := ?_) rfl (by decide +kernel) (by decide +kernel) (by decide +kernel) (fun _ _ _ h => h) (Or.inl ⟨by rfl, ?_⟩) (by assumption) ?_; rotate_left; (focus ((intro w hSw; (try dsimp only at hSw); go_simp); (try (with_reducible rfl)); done)); (try simp only [List.getElem_toArray, List.getElem_cons_zero, List.getElem_cons_succ, Act.put, List.setIfInBounds_toArray, List.set_cons_zero, List.set_cons_succ]))
            (refine wpAnyH_take (i := 5) (v := ?_) rfl (by decide +kernel) (by decide +kernel) (by decide +kernel) (fun _ _ _ h => h) (Or.inl ⟨by rfl, ?_⟩) (by assumption) ?_; rotate_left; (focus ((intro w hSw; (try dsimp only at hSw); go_simp); (try (with_reducible rfl)); done)); (try simp only [List.getElem_toArray, List.getElem_cons_zero, List.getElem_cons_succ, Act.put, List.setIfInBounds_toArray, List.set_cons_zero, List.set_cons_succ]))
            (refine wpAnyH_take (i := 6) (v := ?_) rfl (by decide +kernel) (by decide +kernel) (by decide +kernel) (fun _ _ _ h => h) (Or.inl ⟨by rfl, ?_⟩) (by assumption) ?_; rotate_left; (focus ((intro w hSw; (try dsimp only at hSw); go_simp); (try (with_reducible rfl)); done)); (try simp only [List.getElem_toArray, List.getElem_cons_zero, List.getElem_cons_succ, Act.put, List.setIfInBounds_toArray, List.set_cons_zero, List.set_cons_succ]))
            (refine wpAnyH_take (i := 7) (v := ?_) rfl (by decide +kernel) (by decide +kernel) (by decide +kernel) (fun _ _ _ h => h) (Or.inl ⟨by rfl, ?_⟩) (by assumption) ?_; rotate_left; (focus ((intro w hSw; (try dsimp only at hSw); go_simp); (try (with_reducible rfl)); done)); (try simp only [List.getElem_toArray, List.getElem_cons_zero, List.getElem_cons_succ, Act.put, List.setIfInBounds_toArray, List.set_cons_zero, List.set_cons_succ]))
            (refine wpAnyH_take (i := 8) (v := ?_) rfl (by decide +kernel) (by decide +kernel) (by decide +kernel) (fun _ _ _ h => h) (Or.inl ⟨by rfl, ?_⟩) (by assumption) ?_; rotate_left; (focus ((intro w hSw; (try dsimp only at hSw); go_simp); (try (with_reducible rfl)); done)); (try simp only [List.getElem_toArray, List.getElem_cons_zero, List.getElem_cons_succ, Act.put, List.setIfInBounds_toArray, List.set_cons_zero, List.set_cons_succ]))
            (refine wpAnyH_take (i := 10) (v := ?_) rfl (by decide +kernel) (by decide +kernel) (by decide +kernel) (fun _ _ _ h => h) (Or.inl ⟨by rfl, ?_⟩) (by assumption) ?_; rotate_left; (focus ((intro w hSw; (try dsimp only at hSw); go_simp); (try (with_reducible rfl)); done)); (try simp only [List.getElem_toArray, List.getElem_cons_zero, List.getElem_cons_succ, Act.put, List.setIfInBounds_toArray, List.set_cons_zero, List.set_cons_succ]))
            (refine wpAnyH_ready (rs := [9]) (by decide +kernel) (by simp) ?_; refine AllReadyH.cons rfl (fun K hK => ?_) AllReadyH.nil; go_simp; (go_at_call 12; (with_reducible refine (CP.out _ HNm HSz.out).mono ?_); rintro e x1 ⟨rfl, NA', ncp', HNn, hbk⟩; replace HO := oi_keep HO hbk; have hgs2 := (hbk.bel.cell (show (ad'.add i).block < _ from hI2)).trans hgs; replace HCX : Hid _ := keep8 HCX hbk.bel hI0; replace HWQ : Hid (Below w.heap.size w x1) := HWQ.out.trans (hbk.bel.mono HBS.out); replace HSz : Hid (base ≤ x1.heap.size) := Nat.le_trans HSz.out hbk.bel.size; clear hgs hI0 hI2 hbk HNm; have hgs := hgs2; clear hgs2); (try (go_wp2_with fail)); refine hK.out _ _ ?_ (fun hHeld => ?_); (focus ((try dsimp only); exact ⟨hgs, HCX.out⟩)); clear hK K; (try simp only [List.getElem_toArray, List.getElem_cons_zero, List.getElem_cons_succ, Act.put, List.setIfInBounds_toArray, List.set_cons_zero, List.set_cons_succ]))
            (refine wpAnyH_take (i := 11) (v := ?_) rfl (by decide +kernel) (by decide +kernel) (by decide +kernel) (fun _ _ _ h => h) (Or.inl ⟨by rfl, ?_⟩) (by assumption) ?_; rotate_left; (focus ((intro w hSw; (try dsimp only at hSw); go_simp); (try (with_reducible rfl)); done)); (try simp only [List.getElem_toArray, List.getElem_cons_zero, List.getElem_cons_succ, Act.put, List.setIfInBounds_toArray, List.set_cons_zero, List.set_cons_succ]))
            refine wpAnyH_done (by decide +kernel) ?_ _
            go_wp2_with (first
              | (at_builtin; (refine wpList_append_own _ rfl _ _ 47 rfl base 3 i0 (.int .i64 0) 1 8 Tryd.underlying47 J0.out Y0.out Y1.out Y2.out rfl (by decide) _ _ _ rfl (World.ownsRow.alloc HO _) ⟨x1.heap.size, 0, none⟩ 1 1 [.int .i64 (i : Int)] rfl rfl (cell_one_new _ _ _) ?q1 ?q2 ?q3 ?q4 ?_))
              | fail)
            case q1 => intro z hz; rw [List.mem_singleton.1 hz]; rfl
            case q2 => unfold maxLen; omega
            case q3 => omega
            case q4 => exact Nat.le_trans HSz.out (Nat.le_of_lt (heap_lt x1 _))
            intro v1 w3 ho1 hg1 hn1
            clear hn1
            obtain ⟨g1, cap1, rfl⟩ := vown_form ho1
            have HN2 : Hid (Nms base w3 p b NA' ncp' (k + 1) ((sel f g (i + 1)).map f) ((sel f g (i + 1)).map g)) := by
              have h5 := ((HNn.al (.cells #[.int .i64 (i : Int)] 3 (0, 0))).grown (World.ownsRow.alloc HO _) hg1)
              rw [HXX.out, HSS.out] at h5
              unfold Hid
              rw [HSD.out, List.map_append, List.map_append]
              exact h5
            have HO2 : Hid (OI base w3 (.slice (some ⟨g1, 0, none⟩) (k + 1) cap1) (k + 1) (selV f g (i + 1))) := by
              unfold Hid selV
              rw [HSD.out, List.map_append]
              exact ho1
            have HW2 : Hid (Below w.heap.size w w3) := (HWQ.out.alloc HWQ.out.size _).grown hg1 (Nat.le_trans HWQ.out.size (Nat.le_of_lt (heap_lt x1 _))) (fun g' e => Nat.le_trans HBS.out (World.ownsRow.lt HO g' e).1)
            have HS3 : Hid (base ≤ w3.heap.size) := Nat.le_trans (Nat.le_trans HSz.out (Nat.le_of_lt (heap_lt x1 _))) hg1.size
            have HM2 : Hid (k + 1 = (sel f g (i + 1)).length) := by unfold Hid; rw [HSD.out, List.length_append, ← HM.out]; rfl
            clear ho1 hg1 HNn HO HCX hgs hHeld
            go_wp2_with fail
            go_roundw
            case rel => exact ⟨i + 1, k + 1, some ⟨g1, 0, none⟩, cap1, NA', ncp', by omega, by omega, by go_num, rfl, HM2, HO2, HN2, HW2, HS3⟩
            case measure => simp [intOf]; omega
    · obtain rfl : i = n := by omega
      have di : decide ((i : Int) < (i : Int)) = false := decide_eq_false (by omega)
      go_wp2_with (first
        | (go_at_call 15; (with_reducible refine (vall_h HNm.out (by omega)).mono ?_); rintro e w3 ⟨LA, lc, rfl, HL, hbk⟩; replace HO := vown_up HO.out hbk; replace HNm := HNm.out.up hbk; replace HW : Hid (Below w.heap.size w w3) := HW.out.trans (hbk.out.mono HW.out.size); clear hbk)
        | fail)
      obtain ⟨wp, hwp⟩ : ∃ X, X = w3 := ⟨_, rfl⟩
      rw [← hwp] at HO HNm HW HL
      have HL2 := vhide HL
      have HNm2 := vhide HNm
      have HO2 := vhide HO
      clear HL HNm HO
      go_loopw [11] (fun kv wr => ∃ k : Nat, k ≤ m ∧ kv = .int .i64 (k : Int) ∧ Hid (Below wp.heap.size wp wr)) (fun kv _ => m - (intOf kv).toNat)
      case atStart => exact ⟨0, by omega, rfl, by rw [hwp]; exact Below.refl _ _⟩
      case round =>
        obtain ⟨k, hk, rfl, HQ⟩ := hrel
        clear hwp
        have HWQ : Hid (Below w.heap.size w wr) := HW.out.trans (HQ.out.mono HW.out.size)
        by_cases hkm : k < m
        · have wk : IntKind.i64.wrap ((k : Int) + 1) = (k : Int) + 1 := IntWalk.i64_in _ (by omega)
          have dk : decide ((k : Int) < (m : Int)) = true := decide_eq_true (by omega)
          obtain ⟨j, hj⟩ : ∃ j, (sel f g i)[k]? = some j := ⟨_, List.getElem?_eq_getElem (by rw [← HM.out]; exact hkm)⟩
          have hji : j < i := sel_lt f g i j (List.mem_of_getElem? hj)
          obtain ⟨gb, hPA, gk⟩ := oi_cell (vown_up HO2.out HQ) (k := k) (y := .int .i64 (j : Int)) (by rw [selV, List.getElem?_map, hj]; rfl)
          obtain ⟨y, hy⟩ : ∃ y, y = f j := ⟨_, rfl⟩
          obtain ⟨s, hs⟩ : ∃ s, s = g j := ⟨_, rfl⟩
          have cy : ∀ q, q < 8 → wr.cell? ((ad.add (j * 8)).add q) = some (.int .i64 (y.at_ q)) := fun q hq => (HWQ.out.cell (by rw [yblock_add, yblock_add]; exact H1.out)).trans (by rw [hy]; exact HFC.out j hji q hq)
          obtain ⟨y0, y1, y2, y3, y4, y5, y6, y7⟩ := v8_cells cy
          have gs := (HWQ.out.cell (p := ad'.add j) (by rw [yblock_add]; exact H2.out)).trans (HGC.out j hji)
          rw [← hs] at gs
          have hjn' : j < n' := by omega
          have hLk : ((sel f g i).map g)[k]? = some s := by rw [List.getElem?_map, hj, hs]; rfl
          have hVk : ((sel f g i).map f)[k]? = some y := by rw [List.getElem?_map, hj, hy]; rfl
          have CG : Hid (Calls Tryd.prog 13 #[.pointer (some ⟨p, 0, none⟩), y.v] wr (RetSB wr s true)) :=
            get_yes (HNm2.out.up HQ) (by omega) (by rw [hy]; exact HWF.out j hji) hVk hLk
          obtain ⟨la, hla, hlb, hlc⟩ := (HL2.out.up HQ).out (by have := (List.getElem?_eq_some_iff.1 hLk).1; omega)
          have gl := hlc k s hLk
          have HYC : Hid (wr.cell? ⟨gb, k, none⟩ = some (.int .i64 (j : Int)) ∧ wr.cell? (ad'.add j) = some (.string s) ∧ wr.cell? (la.add k) = some (.string s)) := ⟨gk, gs, gl⟩
          have lgb : gb < wr.heap.size := World.block_lt_of_cell? wr _ gk
          have lad : (ad'.add j).block < wr.heap.size := World.block_lt_of_cell? wr _ gs
          have lla : (la.add k).block < wr.heap.size := World.block_lt_of_cell? wr _ gl
          have HLT : Hid (gb < wr.heap.size ∧ (ad'.add j).block < wr.heap.size ∧ (la.add k).block < wr.heap.size) := ⟨lgb, lad, lla⟩
          clear hj hy hs cy hLk hVk hlc hlb gs gl lgb lad lla
          subst hPA
          subst hla
          go_wp2_with (first
            | (go_at_call 13; (with_reducible refine CG.out.mono ?_); rintro e x1 ⟨rfl, hbk⟩; clear gk y0 y1 y2 y3 y4 y5 y6 y7; have gk := (hbk.out.cell (p := ⟨gb, k, none⟩) HLT.out.1).trans HYC.out.1; have gs := (hbk.out.cell HLT.out.2.1).trans HYC.out.2.1; have gl := (hbk.out.cell HLT.out.2.2).trans HYC.out.2.2; replace HQ : Hid (Below wp.heap.size wp x1) := HQ.out.trans (hbk.out.mono HQ.out.size); clear hbk)
            | fail)
          go_roundw
          case rel => exact ⟨k + 1, by omega, by go_num, HQ⟩
          case measure => simp [intOf]; omega
        · obtain rfl : k = m := by omega
          have dk : decide ((k : Int) < (k : Int)) = false := decide_eq_false (by omega)
          go_wp2_with fail
          go_ret
          exact ⟨rfl, HWQ⟩
end Go.Proofs.YtibigdblapgmdaaDoor
