/- The document's own Int, over its calls' contracts. No conditions but those. -/
import Derived.Test.YtmiklffjffdkgaaGreatDoorRtf
import Derived.Test.YtmiklffjffdkgaaGreatDoorGRwbc27
import Derived.Test.YtmiklffjffdkgaaGreatDoorGRwbc25
import Derived.Deep.RegionHeld3
import Derived.Deep.RegionWith
import Derived.Deep.CutRange
open Go.RowKit
set_option maxRecDepth 100000
namespace Go.Proofs.YtmiklffjffdkgaaGreatDoor
/-- A call that returns a text: is it just the digit 1? -/
def TxB (W : World) (b : Bool) (e : Ending) (w' : World) : Prop := ∃ t : ByteArray, e = .returned (.string t) ∧ (t.toList == [49]) = b ∧ Hid (Below W.heap.size W w')
theorem Rz.put2 {W : World} {p : Nat} {s : Bool} {A : Option Addr} {c : Nat} {z : Int} (h : Rz W s A c z) (hp : At W p [.bool false, .slice none 0 0]) (b : Bool) (B : Option Addr) (n e : Nat) : Rz ((W.setCell ⟨p, 0, none⟩ (.bool b)).setCell ⟨p, 1, none⟩ (.slice B n e)) s A c z := ⟨h.1.put2 hp, h.2⟩
theorem zret {W0 w2 : World} {p : Nat} {s : Bool} {A : Option Addr} {c : Nat} {z : Int} (hz : Rz w2 s A c z) (hp : At w2 p [.bool false, .slice none 0 0]) (hb : Bel W0 w2) (hq : W0.heap.size ≤ p) :
    RZv W0 s z (.returned (.agg #[.bool s, .slice A (dq z.natAbs) c])) ((w2.setCell ⟨p, 0, none⟩ (.bool s)).setCell ⟨p, 1, none⟩ (.slice A (dq z.natAbs) c)) :=
  ⟨A, c, rfl, ⟨hz.1.put2 hp, hz.2⟩, hb.put2 hq _ _⟩
theorem zswap {W : World} {p q : Nat} {b0 b1 : Bool} {B0 B1 : Option Addr} {k0 d0 k1 d1 : Nat} (hp : At W p [.bool b0, .slice B0 k0 d0]) (hq : At W q [.bool b1, .slice B1 k1 d1]) (hpq : p ≠ q) (u v : Bool) (U V : Option Addr) (i j k l : Nat) :
    At ((((W.setCell ⟨p, 0, none⟩ (.bool u)).setCell ⟨p, 1, none⟩ (.slice U i j)).setCell ⟨q, 0, none⟩ (.bool v)).setCell ⟨q, 1, none⟩ (.slice V k l)) p [.bool u, .slice U i j] ∧
    At ((((W.setCell ⟨p, 0, none⟩ (.bool u)).setCell ⟨p, 1, none⟩ (.slice U i j)).setCell ⟨q, 0, none⟩ (.bool v)).setCell ⟨q, 1, none⟩ (.slice V k l)) q [.bool v, .slice V k l] ∧
    (∀ r vs, r ≠ p → r ≠ q → At W r vs → At ((((W.setCell ⟨p, 0, none⟩ (.bool u)).setCell ⟨p, 1, none⟩ (.slice U i j)).setCell ⟨q, 0, none⟩ (.bool v)).setCell ⟨q, 1, none⟩ (.slice V k l)) r vs) ∧
    (∀ s A c z, Rz W s A c z → Rz ((((W.setCell ⟨p, 0, none⟩ (.bool u)).setCell ⟨p, 1, none⟩ (.slice U i j)).setCell ⟨q, 0, none⟩ (.bool v)).setCell ⟨q, 1, none⟩ (.slice V k l)) s A c z) ∧
    (∀ w0, Bel w0 W → w0.heap.size ≤ p → w0.heap.size ≤ q → Bel w0 ((((W.setCell ⟨p, 0, none⟩ (.bool u)).setCell ⟨p, 1, none⟩ (.slice U i j)).setCell ⟨q, 0, none⟩ (.bool v)).setCell ⟨q, 1, none⟩ (.slice V k l))) := by
  have hq2 : At ((W.setCell ⟨p, 0, none⟩ (.bool u)).setCell ⟨p, 1, none⟩ (.slice U i j)) q [.bool b1, .slice B1 k1 d1] := (hq.far hpq _).far hpq _
  exact ⟨((hp.put2 (.bool u) (.slice U i j)).far hpq.symm _).far hpq.symm _, hq2.put2 _ _, fun r vs h1 h2 h => (((h.far h1.symm _).far h1.symm _).far h2.symm _).far h2.symm _,
    fun s A c z h => ⟨(h.1.put2 hp).put2 hq2, h.2⟩, fun w0 h h1 h2 => (h.put2 h1 _ _).put2 h2 _ _⟩
theorem at_newZ {W : World} (p : Nat) (u0 u1 : Value) (vs : List Value) (t : TypeId) : At (((W.setCell ⟨p, 0, none⟩ u0).setCell ⟨p, 1, none⟩ u1).alloc (.cells vs.toArray t)) W.heap.size vs := at_size (at_new0 _ vs t) (by simp [World.setCell])
set_option maxHeartbeats 32000000 in
theorem rint_int {b sl sh sn sq one : Bool} {A A' : Option Addr} {c c' d n1 n2 qq rr : Nat} {z lo hi ng hf mode i1 : Int} {q : Rat} {W : World}
    (CF : Hid (∀ W', Bel W W' → Calls Tryz.prog 34 #[.agg #[.bool b, .slice A (dq z.natAbs) c, .slice A' (dq d) c']] W' (RZv W' sl lo)))
    (CX : Hid (∀ W', Bel W W' → Calls Tryz.prog 35 #[.slice A' (dq d) c'] W' (TxB W' one)))
    (h1 : one = true) :
    Calls Tryz.prog 13 #[.agg #[.bool b, .slice A (dq z.natAbs) c, .slice A' (dq d) c'], .int .i64 mode] W (RZv W sl lo) := by
  subst h1
  have HB := Bel.refl W
  go_enter Tryz.func13, Tryz.ntmps13
  have hr0 := at_new0 W [.bool b, .slice A (dq z.natAbs) c, .slice A' (dq d) c'] 38
  clear hr0
  go_wp2_with (first | (go_at_call 34; (with_reducible refine (CF.out _ ((HB.al _).al _)).mono ?_); rintro e w1 ⟨Al, cl, rfl, zl, hbk⟩; (with_reducible (have HR : At w1 W.heap.size [.bool b, .slice A (dq z.natAbs) c, .slice A' (dq d) c'] := At.up ((at_new0 _ _ _).al _) hbk; have HZ : At w1 (W.heap.size + 1) [.bool false, .slice none 0 0] := At.up (at_new1 _ _ _ _) hbk; replace HB := ((HB.al _).al _).up hbk)); have hr_0 := HR.c0; have hr_1 := HR.c1; have hr_2 := HR.c2; have hr_l := HR.lt) | (go_at_call 35; (with_reducible refine (CX.out _ (HB.al _)).mono ?_); rintro e w2 ⟨t, rfl, ht, hbk⟩; (with_reducible (have HL : At w2 w1.heap.size [.bool sl, .slice Al (dq lo.natAbs) cl] := At.up (at_new0 _ _ _) hbk; replace HB := (HB.al _).up hbk; replace HR := (HR.al _).up hbk; replace HZ := (HZ.al _).up hbk; replace zl := (zl.al _).up hbk)); clear hr_0 hr_1 hr_2 hr_l; have hl_0 := HL.c0; have hl_1 := HL.c1; have hl_l := HL.lt; have hz_0 := HZ.c0; have hz_1 := HZ.c1; have hz_l := HZ.lt; have hz_f0 := HZ.f0; have hz_f1 := HZ.f1) | fail)
  refine bodyPost_ret (v := .agg #[.bool sl, .slice Al (dq lo.natAbs) cl]) (by simp [results, Tryz.results13, go_sem, hz_0, hz_1]) rfl ?_
  obtain ⟨_, g1, g2⟩ := rn_two HZ zl.1 HB (by omega) sl (dq lo.natAbs)
  exact ⟨Al, cl, rfl, ⟨g1, zl.2⟩, g2⟩
set_option maxHeartbeats 64000000 in
theorem rint_mid {b sl sh sn sq one : Bool} {A A' : Option Addr} {c c' d n1 n2 qq rr : Nat} {z lo hi ng hf mode i1 : Int} {q : Rat} {W : World} {ne fa v : Int} {ss sf sv : Bool}
    (CF : Hid (∀ W', Bel W W' → Calls Tryz.prog 34 #[.agg #[.bool b, .slice A (dq z.natAbs) c, .slice A' (dq d) c']] W' (RZv W' sl lo)))
    (CX : Hid (∀ W', Bel W W' → Calls Tryz.prog 35 #[.slice A' (dq d) c'] W' (TxB W' one)))
    (C1 : Hid (∀ W', Calls Tryz.prog 37 #[.int .i64 1] W' (RZv W' false i1)))
    (CA : Hid (∀ W' B e C f, Rz W' sl B e lo → Rz W' false C f i1 → Calls Tryz.prog 36 #[.agg #[.bool sl, .slice B (dq lo.natAbs) e], .agg #[.bool false, .slice C (dq i1.natAbs) f]] W' (RZv W' sh hi)))
    (CS1 : Hid (∀ W', Calls Tryz.prog 41 #[.int .u64 1] W' (RefRz W' n1)))
    (CN : Hid (∀ W' B e C f, Rz W' sl B e lo → Rn W' C f n1 → Calls Tryz.prog 40 #[.agg #[.bool sl, .slice B (dq lo.natAbs) e, .slice C (dq n1) f]] W' (RQm W' sn ng n1)))
    (CQA : Hid (∀ W' B e C f, Bel W W' → Rz W' sn B e ng → Rn W' C f n1 → Calls Tryz.prog 39 #[.agg #[.bool b, .slice A (dq z.natAbs) c, .slice A' (dq d) c'], .agg #[.bool sn, .slice B (dq ng.natAbs) e, .slice C (dq n1) f]] W' (RQm W' sq q.num q.den)))
    (CS2 : Hid (∀ W', Calls Tryz.prog 41 #[.int .u64 2] W' (RefRz W' n2)))
    (CQ : Hid (∀ W' B e C f, Rz W' false B e i1 → Rn W' C f n2 → Calls Tryz.prog 23 #[.agg #[.bool false, .slice B (dq i1.natAbs) e], .slice C (dq n2) f] W' (RQm W' false i1 n2)))
    (CC : Hid (∀ W' B e B' e' C f C' f', Rz W' sq B e q.num → Rn W' B' e' q.den → Rz W' false C f i1 → Rn W' C' f' n2 → Calls Tryz.prog 38 #[.agg #[.bool sq, .slice B (dq q.num.natAbs) e, .slice B' (dq q.den) e'], .agg #[.bool false, .slice C (dq i1.natAbs) f, .slice C' (dq n2) f']] W' (IntPost W' hf)))
    (CD : Hid (∀ W' B e C f, Rz W' sl B e lo → Rn W' C f n2 → Calls Tryz.prog 42 #[.slice B (dq lo.natAbs) e, .slice C (dq n2) f] W' (RDivR W' qq rr)))
    (h1 : one = false) (hb : (b = false ∧ ne = lo ∧ fa = hi ∧ ss = sl ∧ sf = sh) ∨ (b = true ∧ ne = hi ∧ fa = lo ∧ ss = sh ∧ sf = sl))
    (hv : (mode = 1 ∧ v = ne) ∨ (mode = 2 ∧ v = fa) ∨ (mode = 3 ∧ v = lo) ∨ (mode = 4 ∧ v = hi) ∨ (5 ≤ mode ∧ mode ≤ 7 ∧ hf < 0 ∧ v = lo) ∨ (5 ≤ mode ∧ mode ≤ 7 ∧ 0 < hf ∧ v = hi) ∨ (mode = 5 ∧ hf = 0 ∧ v = ne) ∨ (mode = 6 ∧ hf = 0 ∧ v = fa) ∨ (mode = 7 ∧ hf = 0 ∧ rr = 0 ∧ v = lo) ∨ (mode = 7 ∧ hf = 0 ∧ rr = 1 ∧ v = hi)) (hsv : sv = decide (v < 0)) :
    Calls Tryz.prog 13 #[.agg #[.bool b, .slice A (dq z.natAbs) c, .slice A' (dq d) c'], .int .i64 mode] W (RZv W sv v) := by
  subst h1
  have HVV := hide hv
  have HBB := hide hb
  have HSV := hide hsv
  clear hv hb hsv
  have HB := Bel.refl W
  go_enter Tryz.func13, Tryz.ntmps13
  go_upto_region 4 with (first | (go_at_call 34; (with_reducible refine (CF.out _ ((HB.al _).al _)).mono ?_); rintro e w1 ⟨Al, cl, rfl, zl, hbk⟩; (with_reducible (have HR : At w1 W.heap.size [.bool b, .slice A (dq z.natAbs) c, .slice A' (dq d) c'] := At.up ((at_new0 _ _ _).al _) hbk; have HZ : At w1 (W.heap.size + 1) [.bool false, .slice none 0 0] := At.up (at_new1 _ _ _ _) hbk; replace HB := ((HB.al _).al _).up hbk)); have hr_0 := HR.c0; have hr_1 := HR.c1; have hr_2 := HR.c2; have hr_l := HR.lt) | (go_at_call 35; (with_reducible refine (CX.out _ (HB.al _)).mono ?_); rintro e w2 ⟨t, rfl, ht, hbk⟩; (with_reducible (have HL : At w2 w1.heap.size [.bool sl, .slice Al (dq lo.natAbs) cl] := At.up (at_new0 _ _ _) hbk; replace HB := (HB.al _).up hbk; replace HR := (HR.al _).up hbk; replace HZ := (HZ.al _).up hbk; replace zl := (zl.al _).up hbk)); clear hr_0 hr_1 hr_2 hr_l) | fail)
  obtain ⟨pl, hpl⟩ : ∃ q, q = w1.heap.size := ⟨_, rfl⟩
  rw [← hpl] at HL ⊢
  clear hpl CF CX
  go_cut [6] from 19 to 21 (fun v w' => ∃ ph Ah ch, v = .pointer (some ⟨ph, 0, none⟩) ∧ At w' ph [.bool sh, .slice Ah (dq hi.natAbs) ch] ∧ Rz w' sh Ah ch hi ∧ Bel w2 w')
  case first =>
    have HW := Bel.refl w2
    have lpl := HL.lt
    go_region_held3 (fun w' => w'.cell? ⟨pl, 0, none⟩ = some (.bool sl) ∧ w'.cell? ⟨pl, 1, none⟩ = some (.slice Al (dq lo.natAbs) cl))
      (refine ⟨(?_ : At _ pl [.bool sl, .slice Al (dq lo.natAbs) cl]).c0, (?_ : At _ pl [.bool sl, .slice Al (dq lo.natAbs) cl]).c1⟩ <;> (repeat (first | with_reducible exact HL | (with_reducible refine At.dr ?_) | (with_reducible refine At.al ?_ _) | (with_reducible refine At.far ?_ (by omega) _))))
      (first | (go_at_call 37; (with_reducible refine (C1.out _).mono ?_); rintro e w3 ⟨B1, e1, rfl, z1, hbk⟩; (with_reducible (replace HB := HB.dr.up hbk; replace HW := HW.dr.up hbk; replace HL := HL.dr.up hbk; replace zl := zl.dr.up hbk)); have lz0 := HL.lt; have zs1 := Below.size HW; (try have lz2 := HP0.lt)) | (go_at_call 37; (with_reducible refine (C1.out _).mono ?_); rintro e w3 ⟨B1, e1, rfl, z1, hbk⟩; (with_reducible (have HP0 := At.up (at_new0 _ [.bool false, .slice none 0 0] _).dr hbk; replace HB := (HB.al _).dr.up hbk; replace HW := (HW.al _).dr.up hbk; replace HL := (HL.al _).dr.up hbk; replace zl := (zl.al _).dr.up hbk)); have lz0 := HL.lt; have zs1 := Below.size HW; (try have lz2 := HP0.lt)) | (go_at_call 36; (with_reducible refine (CA.out _ _ _ _ _ zl z1).mono ?_); rintro e w4 ⟨Ah, ch, rfl, zh, hbk⟩; (with_reducible (replace HB := HB.up hbk; replace HW := HW.up hbk; replace HL := HL.up hbk; replace zl := zl.up hbk)); (try (with_reducible replace HP0 := HP0.up hbk)); (try have hp0_0 := HP0.c0); (try have hp0_1 := HP0.c1); (try have hq0_0 := HQ0.c0); (try have hq0_1 := HQ0.c1); (try have fhp0_0 := HP0.f0); (try have fhp0_1 := HP0.f1); (try have fhq0_0 := HQ0.f0); (try have fhq0_1 := HQ0.f1); (try have lhp0 := HP0.lt); (try have lhq0 := HQ0.lt); have lz4 := HL.lt; have zs2 := Below.size HW) | (go_at_call 36; (with_reducible refine (CA.out _ _ _ _ _ (zl.al _) (z1.al _)).mono ?_); rintro e w4 ⟨Ah, ch, rfl, zh, hbk⟩; (with_reducible (have HQ0 := At.up (at_new0 _ [.bool false, .slice none 0 0] _) hbk; replace HB := (HB.al _).up hbk; replace HW := (HW.al _).up hbk; replace HL := (HL.al _).up hbk; replace zl := (zl.al _).up hbk)); (try (with_reducible replace HP0 := (HP0.al _).up hbk)); (try have hp0_0 := HP0.c0); (try have hp0_1 := HP0.c1); (try have hq0_0 := HQ0.c0); (try have hq0_1 := HQ0.c1); (try have fhp0_0 := HP0.f0); (try have fhp0_1 := HP0.f1); (try have fhq0_0 := HQ0.f0); (try have fhq0_1 := HQ0.f1); (try have lhp0 := HP0.lt); (try have lhq0 := HQ0.lt); have lz4 := HL.lt; have zs2 := Below.size HW) | fail)
    all_goals
      go_wp2_with fail
      go_meet
      case rel =>
        refine ⟨_, Ah, ch, rfl, ?_, ?_, ?_⟩ <;> (repeat (first | with_reducible exact zh | with_reducible exact HW | with_reducible exact HP0 | with_reducible exact HQ0 | with_reducible exact at_new0 _ _ _ | with_reducible exact at_newZ _ _ _ _ _ | (with_reducible refine Bel.dr ?_) | (with_reducible refine Bel.al ?_ _) | (with_reducible refine Bel.put2 ?_ (by omega) _ _) | (with_reducible refine Rz.dr ?_) | (with_reducible refine Rz.al ?_ _) | (with_reducible refine Rz.put2 ?_ ?_ _ _ _ _) | (with_reducible refine At.dr ?_) | (with_reducible refine At.al ?_ _) | (with_reducible refine At.put2 (v0 := .bool false) (v1 := .slice none 0 0) ?_ _ _)))
  case rest =>
    obtain ⟨ph, Ah, ch, rfl, HH, zh, hW⟩ := hcut
    replace HB := HB.up hW.hid
    replace HR := HR.up hW.hid
    replace HZ := HZ.up hW.hid
    replace HL := HL.up hW.hid
    replace zl := zl.up hW.hid
    clear hW CA
    obtain ⟨W5, hW5⟩ : ∃ X, X = wc := ⟨_, rfl⟩
    subst hW5
    go_upto_region 5 with fail
    go_cut [7, 8] from 22 to 23 (fun u v w' => ∃ pn pf, u = .pointer (some ⟨pn, 0, none⟩) ∧ v = .pointer (some ⟨pf, 0, none⟩) ∧ pn ≠ pf ∧ W5.heap.size ≤ pn ∧ W5.heap.size ≤ pf ∧ At w' pn [.bool sl, .slice Al (dq lo.natAbs) cl] ∧ At w' pf [.bool sh, .slice Ah (dq hi.natAbs) ch] ∧ Bel W5 w')
    case first =>
      have HW := Bel.refl W5
      have hl_0 := HL.c0
      have hl_1 := HL.c1
      have hl_l := HL.lt
      have hh_0 := HH.c0
      have hh_1 := HH.c1
      have hh_l := HH.lt
      go_wp2_with fail
      go_region
      all_goals go_wp2_with fail
      all_goals
      go_meet
      case rel =>
        first
          | (refine ⟨W5.heap.size, W5.heap.size + 1, rfl, rfl, by omega, by omega, by omega, ?_, ?_, ?_⟩ <;> (repeat (first | with_reducible exact HW | with_reducible exact at_new0 _ _ _ | with_reducible exact at_new1 _ _ _ _ | (with_reducible refine Bel.dr ?_) | (with_reducible refine Bel.al ?_ _) | (with_reducible refine At.dr ?_) | (with_reducible refine At.al ?_ _))))
          | (refine ⟨W5.heap.size + 1, W5.heap.size, rfl, rfl, by omega, by omega, by omega, ?_, ?_, ?_⟩ <;> (repeat (first | with_reducible exact HW | with_reducible exact at_new0 _ _ _ | with_reducible exact at_new1 _ _ _ _ | (with_reducible refine Bel.dr ?_) | (with_reducible refine Bel.al ?_ _) | (with_reducible refine At.dr ?_) | (with_reducible refine At.al ?_ _))))
    case rest =>
      obtain ⟨pn, pf, rfl, rfl, hnf, hn5, hf5, HN, HF, hW⟩ := hcut
      have l5 := HL.lt
      have m5 := HH.lt
      have z5 := HZ.lt
      have r5 := HR.lt
      replace HB := HB.up hW.hid
      replace HR := HR.up hW.hid
      replace HZ := HZ.up hW.hid
      replace HL := HL.up hW.hid
      replace HH := HH.up hW.hid
      replace zl := zl.up hW.hid
      replace zh := zh.up hW.hid
      clear hW
      obtain ⟨W6, hW6⟩ : ∃ X, X = wc := ⟨_, rfl⟩
      subst hW6
      have hr_0 := HR.c0
      have hr_l := HR.lt
      go_upto_if 26 with fail
      clear hr_0 hr_l
      go_cut [27, 28] from 27 to 28 (fun _ _ w' => ∃ An cn Af cf', At w' pn [.bool ss, .slice An (dq ne.natAbs) cn] ∧ At w' pf [.bool sf, .slice Af (dq fa.natAbs) cf'] ∧ Rz w' ss An cn ne ∧ Rz w' sf Af cf' fa ∧ At w' W.heap.size [.bool b, .slice A (dq z.natAbs) c, .slice A' (dq d) c'] ∧ At w' (W.heap.size + 1) [.bool false, .slice none 0 0] ∧ At w' pl [.bool sl, .slice Al (dq lo.natAbs) cl] ∧ At w' ph [.bool sh, .slice Ah (dq hi.natAbs) ch] ∧ Rz w' sl Al cl lo ∧ Rz w' sh Ah ch hi ∧ Bel W w')
      case first =>
        rcases HBB.out with ⟨e1, e2, e3, e4, e5⟩ | ⟨e1, e2, e3, e4, e5⟩
        · subst e1
          subst e2
          subst e3
          subst e4
          subst e5
          go_wp2_with fail
          go_meet
          case rel => exact ⟨Al, cl, Ah, ch, HN, HF, zl, zh, HR, HZ, HL, HH, zl, zh, HB⟩
        · subst e1
          subst e2
          subst e3
          subst e4
          subst e5
          have hl_0 := HL.c0
          have hl_1 := HL.c1
          have hl_l := HL.lt
          have hh_0 := HH.c0
          have hh_1 := HH.c1
          have hh_l := HH.lt
          have hn_0 := HN.c0
          have hn_1 := HN.c1
          have hn_l := HN.lt
          have hn_f0 := HN.f0
          have hn_f1 := HN.f1
          have hf_0 := HF.c0
          have hf_1 := HF.c1
          have hf_l := HF.lt
          have hf_f0 := HF.f0
          have hf_f1 := HF.f1
          go_wp2_with fail
          go_region
          all_goals go_wp2_with fail
          all_goals
            go_meet
            case rel =>
              first
                | (obtain ⟨t1, t2, t3, t4, t5⟩ := zswap HN HF hnf ss sf Ah Al (dq ne.natAbs) ch (dq fa.natAbs) cl
                   exact ⟨Ah, ch, Al, cl, t1.dr, t2.dr, (t4 _ _ _ _ zh).dr, (t4 _ _ _ _ zl).dr, (t3 _ _ (by omega) (by omega) HR).dr, (t3 _ _ (by omega) (by omega) HZ).dr, (t3 _ _ (by omega) (by omega) HL).dr, (t3 _ _ (by omega) (by omega) HH).dr, (t4 _ _ _ _ zl).dr, (t4 _ _ _ _ zh).dr, (t5 _ HB (by omega) (by omega)).dr⟩)
                | (obtain ⟨t1, t2, t3, t4, t5⟩ := zswap HF HN hnf.symm sf ss Al Ah (dq fa.natAbs) cl (dq ne.natAbs) ch
                   exact ⟨Ah, ch, Al, cl, t2.dr, t1.dr, (t4 _ _ _ _ zh).dr, (t4 _ _ _ _ zl).dr, (t3 _ _ (by omega) (by omega) HR).dr, (t3 _ _ (by omega) (by omega) HZ).dr, (t3 _ _ (by omega) (by omega) HL).dr, (t3 _ _ (by omega) (by omega) HH).dr, (t4 _ _ _ _ zl).dr, (t4 _ _ _ _ zh).dr, (t5 _ HB (by omega) (by omega)).dr⟩)
      case rest =>
        obtain ⟨An, cn, Af, cf', HN, HF, zn, zf, HR, HZ, HL, HH, zl, zh, HB⟩ := hcut
        clear l5 m5 z5 r5 hnf hn5 hf5
        obtain ⟨W7, hW7⟩ : ∃ X, X = wc := ⟨_, rfl⟩
        subst hW7
        go_upto_region 8 with fail
        go_cut [9] from 29 to 38 (fun o w' => o = .int .i64 hf ∧ Bel W7 w')
        case first =>
          have HW := Bel.refl W7
          replace HR := HR.dr
          replace HL := HL.dr
          replace zl := zl.dr
          replace HB := HB.dr
          replace HW := HW.dr
          refine wp_region_held_drew (S := fun w' => w'.cell? ⟨W.heap.size, 0, none⟩ = some (.bool b) ∧ w'.cell? ⟨W.heap.size, 1, none⟩ = some (.slice A (dq z.natAbs) c) ∧ w'.cell? ⟨W.heap.size, 2, none⟩ = some (.slice A' (dq d) c') ∧ w'.cell? ⟨pl, 0, none⟩ = some (.bool sl) ∧ w'.cell? ⟨pl, 1, none⟩ = some (.slice Al (dq lo.natAbs) cl)) (by kernel_rfl) ?_ (fun hHeld => ?_)
          · exact ⟨HR.c0, HR.c1, HR.c2, HL.c0, HL.c1⟩
          generalize W7.drew = Wd at *
          (refine wpAnyH_take (i := 0) (v := ?_) rfl (by decide +kernel) (by decide +kernel) (by decide +kernel) (fun _ _ _ h => h) (Or.inl ⟨by rfl, ?_⟩) (by assumption) ?_; rotate_left; (focus ((intro w hSw; (try dsimp only at hSw); go_simp); (try (with_reducible rfl)); done)); (try simp only [List.getElem_toArray, List.getElem_cons_zero, List.getElem_cons_succ, Act.put, List.setIfInBounds_toArray, List.set_cons_zero, List.set_cons_succ]))
          (refine wpAnyH_take (i := 1) (v := ?_) rfl (by decide +kernel) (by decide +kernel) (by decide +kernel) (fun _ _ _ h => h) (Or.inl ⟨by rfl, ?_⟩) (by assumption) ?_; rotate_left; (focus ((intro w hSw; (try dsimp only at hSw); go_simp); (try (with_reducible rfl)); done)); (try simp only [List.getElem_toArray, List.getElem_cons_zero, List.getElem_cons_succ, Act.put, List.setIfInBounds_toArray, List.set_cons_zero, List.set_cons_succ]))
          (refine wpAnyH_ready (rs := [2]) (by decide +kernel) (by simp) ?_; refine AllReadyH.cons rfl (fun K hK => ?_) AllReadyH.nil; go_simp; (go_at_call 41; (with_reducible refine (CS1.out _).mono ?_); rintro e x1 ⟨B1, e1, rfl, k1, hbk⟩; (with_reducible (replace HR := HR.up hbk; replace HL := HL.up hbk; replace zl := zl.up hbk; replace HB := HB.up hbk; replace HW := HW.up hbk))); (try (go_wp2_with fail)); refine hK.out _ _ ?_ (fun hHeld => ?_); (focus ((try dsimp only); (with_reducible exact ⟨HR.c0, HR.c1, HR.c2, HL.c0, HL.c1⟩))); clear hK K; (try simp only [List.getElem_toArray, List.getElem_cons_zero, List.getElem_cons_succ, Act.put, List.setIfInBounds_toArray, List.set_cons_zero, List.set_cons_succ]))
          (refine wpAnyH_take (i := 3) (v := ?_) rfl (by decide +kernel) (by decide +kernel) (by decide +kernel) (fun _ _ _ h => h) (Or.inl ⟨by rfl, ?_⟩) (by assumption) ?_; rotate_left; (focus ((intro w hSw; (try dsimp only at hSw); go_simp); (try (with_reducible rfl)); done)); (try simp only [List.getElem_toArray, List.getElem_cons_zero, List.getElem_cons_succ, Act.put, List.setIfInBounds_toArray, List.set_cons_zero, List.set_cons_succ]))
          (refine wpAnyH_ready (rs := [4]) (by decide +kernel) (by simp) ?_; refine AllReadyH.cons rfl (fun K hK => ?_) AllReadyH.nil; go_simp; (go_at_call 40; (with_reducible refine (CN.out _ _ _ _ _ zl k1).mono ?_); rintro e x2 ⟨B2, e2, B2', e2', rfl, k2, k3, hbk⟩; (with_reducible (replace HR := HR.up hbk; replace HL := HL.up hbk; replace zl := zl.up hbk; replace HB := HB.up hbk; replace HW := HW.up hbk))); (try (go_wp2_with fail)); refine hK.out _ _ ?_ (fun hHeld => ?_); (focus ((try dsimp only); (with_reducible exact ⟨HR.c0, HR.c1, HR.c2, HL.c0, HL.c1⟩))); clear hK K; (try simp only [List.getElem_toArray, List.getElem_cons_zero, List.getElem_cons_succ, Act.put, List.setIfInBounds_toArray, List.set_cons_zero, List.set_cons_succ]))
          (refine wpAnyH_ready (rs := [5]) (by decide +kernel) (by simp) ?_; refine AllReadyH.cons rfl (fun K hK => ?_) AllReadyH.nil; go_simp; (go_at_call 39; (with_reducible refine (CQA.out _ _ _ _ _ HB k2 k3).mono ?_); rintro e x3 ⟨B3, e3, B3', e3', rfl, k4, k5, hbk⟩; (with_reducible (replace HR := HR.up hbk; replace HL := HL.up hbk; replace zl := zl.up hbk; replace HB := HB.up hbk; replace HW := HW.up hbk))); (try (go_wp2_with fail)); refine hK.out _ _ ?_ (fun hHeld => ?_); (focus ((try dsimp only); (with_reducible exact ⟨HR.c0, HR.c1, HR.c2, HL.c0, HL.c1⟩))); clear hK K; (try simp only [List.getElem_toArray, List.getElem_cons_zero, List.getElem_cons_succ, Act.put, List.setIfInBounds_toArray, List.set_cons_zero, List.set_cons_succ]))
          (refine wpAnyH_ready (rs := [6]) (by decide +kernel) (by simp) ?_; refine AllReadyH.cons rfl (fun K hK => ?_) AllReadyH.nil; go_simp; (go_at_call 37; (with_reducible refine (C1.out _).mono ?_); rintro e x4 ⟨B4, e4, rfl, k6, hbk⟩; (with_reducible (replace HR := HR.up hbk; replace HL := HL.up hbk; replace zl := zl.up hbk; replace HB := HB.up hbk; replace HW := HW.up hbk; replace k4 := k4.up hbk; replace k5 := k5.up hbk))); (try (go_wp2_with fail)); refine hK.out _ _ ?_ (fun hHeld => ?_); (focus ((try dsimp only); (with_reducible exact ⟨HR.c0, HR.c1, HR.c2, HL.c0, HL.c1⟩))); clear hK K; (try simp only [List.getElem_toArray, List.getElem_cons_zero, List.getElem_cons_succ, Act.put, List.setIfInBounds_toArray, List.set_cons_zero, List.set_cons_succ]))
          (refine wpAnyH_ready (rs := [7]) (by decide +kernel) (by simp) ?_; refine AllReadyH.cons rfl (fun K hK => ?_) AllReadyH.nil; go_simp; (go_at_call 41; (with_reducible refine (CS2.out _).mono ?_); rintro e x5 ⟨B5, e5, rfl, k7, hbk⟩; (with_reducible (replace HR := HR.up hbk; replace HL := HL.up hbk; replace zl := zl.up hbk; replace HB := HB.up hbk; replace HW := HW.up hbk; replace k4 := k4.up hbk; replace k5 := k5.up hbk; replace k6 := k6.up hbk))); (try (go_wp2_with fail)); refine hK.out _ _ ?_ (fun hHeld => ?_); (focus ((try dsimp only); (with_reducible exact ⟨HR.c0, HR.c1, HR.c2, HL.c0, HL.c1⟩))); clear hK K; (try simp only [List.getElem_toArray, List.getElem_cons_zero, List.getElem_cons_succ, Act.put, List.setIfInBounds_toArray, List.set_cons_zero, List.set_cons_succ]))
          (refine wpAnyH_ready (rs := [8]) (by decide +kernel) (by simp) ?_; refine AllReadyH.cons rfl (fun K hK => ?_) AllReadyH.nil; go_simp; (go_at_call 23; (with_reducible refine (CQ.out _ _ _ _ _ k6 k7).mono ?_); rintro e x6 ⟨B6, e6, B6', e6', rfl, k8, k9, hbk⟩; (with_reducible (replace HR := HR.up hbk; replace HL := HL.up hbk; replace zl := zl.up hbk; replace HB := HB.up hbk; replace HW := HW.up hbk; replace k4 := k4.up hbk; replace k5 := k5.up hbk))); (try (go_wp2_with fail)); refine hK.out _ _ ?_ (fun hHeld => ?_); (focus ((try dsimp only); (with_reducible exact ⟨HR.c0, HR.c1, HR.c2, HL.c0, HL.c1⟩))); clear hK K; (try simp only [List.getElem_toArray, List.getElem_cons_zero, List.getElem_cons_succ, Act.put, List.setIfInBounds_toArray, List.set_cons_zero, List.set_cons_succ]))
          (refine wpAnyH_ready (rs := [9]) (by decide +kernel) (by simp) ?_; refine AllReadyH.cons rfl (fun K hK => ?_) AllReadyH.nil; go_simp; (go_at_call 38; (with_reducible refine (CC.out _ _ _ _ _ _ _ _ _ k4 k5 k8 k9).mono ?_); rintro e x7 ⟨rfl, hbk⟩; (with_reducible (replace HR := HR.up hbk; replace HL := HL.up hbk; replace zl := zl.up hbk; replace HB := HB.up hbk; replace HW := HW.up hbk))); (try (go_wp2_with fail)); refine hK.out _ _ ?_ (fun hHeld => ?_); (focus ((try dsimp only); (with_reducible exact ⟨HR.c0, HR.c1, HR.c2, HL.c0, HL.c1⟩))); clear hK K; (try simp only [List.getElem_toArray, List.getElem_cons_zero, List.getElem_cons_succ, Act.put, List.setIfInBounds_toArray, List.set_cons_zero, List.set_cons_succ]))
          (refine wpAnyH_take (i := 10) (v := ?_) rfl (by decide +kernel) (by decide +kernel) (by decide +kernel) (fun _ _ _ h => h) (Or.inl ⟨by rfl, ?_⟩) (by assumption) ?_; rotate_left; (focus ((intro w hSw; (try dsimp only at hSw); go_simp); (try (with_reducible rfl)); done)); (try simp only [List.getElem_toArray, List.getElem_cons_zero, List.getElem_cons_succ, Act.put, List.setIfInBounds_toArray, List.set_cons_zero, List.set_cons_succ]))
          refine wpAnyH_done (by decide +kernel) ?_ _
          go_wp2_with fail
          go_meet
          case rel => exact ⟨rfl, HW⟩
        case rest =>
          obtain ⟨rfl, hW⟩ := hcut
          replace HB := HB.up hW.hid
          replace HZ := HZ.up hW.hid
          replace HL := HL.up hW.hid
          replace HH := HH.up hW.hid
          replace HN := HN.up hW.hid
          replace HF := HF.up hW.hid
          replace zl := zl.up hW.hid
          replace zh := zh.up hW.hid
          replace zn := zn.up hW.hid
          replace zf := zf.up hW.hid
          clear hW HR CS1 CN CQA C1 CQ CC HBB
          obtain ⟨W8, hW8⟩ : ∃ X, X = wc := ⟨_, rfl⟩
          subst hW8
          rcases HVV.out with ⟨rfl, hv⟩ | ⟨rfl, hv⟩ | ⟨rfl, hv⟩ | ⟨rfl, hv⟩ | ⟨ha, hb', hc, hv⟩ | ⟨ha, hb', hc, hv⟩ | ⟨rfl, hc, hv⟩ | ⟨rfl, hc, hv⟩ | ⟨rfl, hc, hd, hv⟩ | ⟨rfl, hc, hd, hv⟩
          · subst hv
            obtain rfl : sv = ss := HSV.out.trans zn.2.out.symm
            have hn_0 := HN.c0
            have hn_1 := HN.c1
            have hn_l := HN.lt
            have hz_0 := HZ.c0
            have hz_1 := HZ.c1
            have hz_l := HZ.lt
            have hz_f0 := HZ.f0
            have hz_f1 := HZ.f1
            go_wp2_with fail
            refine bodyPost_ret (v := .agg #[.bool sv, .slice An (dq v.natAbs) cn]) (by simp [results, Tryz.results13, go_sem, hz_0, hz_1]) rfl ?_
            exact zret zn HZ HB (by omega)
          · subst hv
            obtain rfl : sv = sf := HSV.out.trans zf.2.out.symm
            have hf_0 := HF.c0
            have hf_1 := HF.c1
            have hf_l := HF.lt
            have hz_0 := HZ.c0
            have hz_1 := HZ.c1
            have hz_l := HZ.lt
            have hz_f0 := HZ.f0
            have hz_f1 := HZ.f1
            go_wp2_with fail
            refine bodyPost_ret (v := .agg #[.bool sv, .slice Af (dq v.natAbs) cf']) (by simp [results, Tryz.results13, go_sem, hz_0, hz_1]) rfl ?_
            exact zret zf HZ HB (by omega)
          · subst hv
            obtain rfl : sv = sl := HSV.out.trans zl.2.out.symm
            have hl_0 := HL.c0
            have hl_1 := HL.c1
            have hl_l := HL.lt
            have hz_0 := HZ.c0
            have hz_1 := HZ.c1
            have hz_l := HZ.lt
            have hz_f0 := HZ.f0
            have hz_f1 := HZ.f1
            go_wp2_with fail
            refine bodyPost_ret (v := .agg #[.bool sv, .slice Al (dq v.natAbs) cl]) (by simp [results, Tryz.results13, go_sem, hz_0, hz_1]) rfl ?_
            exact zret zl HZ HB (by omega)
          · subst hv
            obtain rfl : sv = sh := HSV.out.trans zh.2.out.symm
            have hh_0 := HH.c0
            have hh_1 := HH.c1
            have hh_l := HH.lt
            have hz_0 := HZ.c0
            have hz_1 := HZ.c1
            have hz_l := HZ.lt
            have hz_f0 := HZ.f0
            have hz_f1 := HZ.f1
            go_wp2_with fail
            refine bodyPost_ret (v := .agg #[.bool sv, .slice Ah (dq v.natAbs) ch]) (by simp [results, Tryz.results13, go_sem, hz_0, hz_1]) rfl ?_
            exact zret zh HZ HB (by omega)
          · have h3 : mode = 5 ∨ mode = 6 ∨ mode = 7 := by omega
            have h4 : decide (hf < 0) = true := decide_eq_true hc
            have h5 : hf < 0 := hc
            clear ha hb' hc
            rcases h3 with rfl | rfl | rfl
            · subst hv
              obtain rfl : sv = sl := HSV.out.trans zl.2.out.symm
              have hl_0 := HL.c0
              have hl_1 := HL.c1
              have hl_l := HL.lt
              have hz_0 := HZ.c0
              have hz_1 := HZ.c1
              have hz_l := HZ.lt
              have hz_f0 := HZ.f0
              have hz_f1 := HZ.f1
              go_wp2_with fail
              refine bodyPost_ret (v := .agg #[.bool sv, .slice Al (dq v.natAbs) cl]) (by simp [results, Tryz.results13, go_sem, hz_0, hz_1]) rfl ?_
              exact zret zl HZ HB (by omega)
            · subst hv
              obtain rfl : sv = sl := HSV.out.trans zl.2.out.symm
              have hl_0 := HL.c0
              have hl_1 := HL.c1
              have hl_l := HL.lt
              have hz_0 := HZ.c0
              have hz_1 := HZ.c1
              have hz_l := HZ.lt
              have hz_f0 := HZ.f0
              have hz_f1 := HZ.f1
              go_wp2_with fail
              refine bodyPost_ret (v := .agg #[.bool sv, .slice Al (dq v.natAbs) cl]) (by simp [results, Tryz.results13, go_sem, hz_0, hz_1]) rfl ?_
              exact zret zl HZ HB (by omega)
            · subst hv
              obtain rfl : sv = sl := HSV.out.trans zl.2.out.symm
              have hl_0 := HL.c0
              have hl_1 := HL.c1
              have hl_l := HL.lt
              have hz_0 := HZ.c0
              have hz_1 := HZ.c1
              have hz_l := HZ.lt
              have hz_f0 := HZ.f0
              have hz_f1 := HZ.f1
              go_wp2_with fail
              refine bodyPost_ret (v := .agg #[.bool sv, .slice Al (dq v.natAbs) cl]) (by simp [results, Tryz.results13, go_sem, hz_0, hz_1]) rfl ?_
              exact zret zl HZ HB (by omega)
          · have h3 : mode = 5 ∨ mode = 6 ∨ mode = 7 := by omega
            have h4 : decide (hf < 0) = false := decide_eq_false (by omega)
            have h5 : ¬ hf < 0 := by omega
            have h6 : decide (0 < hf) = true := decide_eq_true hc
            have h7 : 0 < hf := hc
            clear ha hb' hc
            rcases h3 with rfl | rfl | rfl
            · subst hv
              obtain rfl : sv = sh := HSV.out.trans zh.2.out.symm
              have hh_0 := HH.c0
              have hh_1 := HH.c1
              have hh_l := HH.lt
              have hz_0 := HZ.c0
              have hz_1 := HZ.c1
              have hz_l := HZ.lt
              have hz_f0 := HZ.f0
              have hz_f1 := HZ.f1
              go_wp2_with fail
              refine bodyPost_ret (v := .agg #[.bool sv, .slice Ah (dq v.natAbs) ch]) (by simp [results, Tryz.results13, go_sem, hz_0, hz_1]) rfl ?_
              exact zret zh HZ HB (by omega)
            · subst hv
              obtain rfl : sv = sh := HSV.out.trans zh.2.out.symm
              have hh_0 := HH.c0
              have hh_1 := HH.c1
              have hh_l := HH.lt
              have hz_0 := HZ.c0
              have hz_1 := HZ.c1
              have hz_l := HZ.lt
              have hz_f0 := HZ.f0
              have hz_f1 := HZ.f1
              go_wp2_with fail
              refine bodyPost_ret (v := .agg #[.bool sv, .slice Ah (dq v.natAbs) ch]) (by simp [results, Tryz.results13, go_sem, hz_0, hz_1]) rfl ?_
              exact zret zh HZ HB (by omega)
            · subst hv
              obtain rfl : sv = sh := HSV.out.trans zh.2.out.symm
              have hh_0 := HH.c0
              have hh_1 := HH.c1
              have hh_l := HH.lt
              have hz_0 := HZ.c0
              have hz_1 := HZ.c1
              have hz_l := HZ.lt
              have hz_f0 := HZ.f0
              have hz_f1 := HZ.f1
              go_wp2_with fail
              refine bodyPost_ret (v := .agg #[.bool sv, .slice Ah (dq v.natAbs) ch]) (by simp [results, Tryz.results13, go_sem, hz_0, hz_1]) rfl ?_
              exact zret zh HZ HB (by omega)
          · subst hc
            subst hv
            obtain rfl : sv = ss := HSV.out.trans zn.2.out.symm
            have hn_0 := HN.c0
            have hn_1 := HN.c1
            have hn_l := HN.lt
            have hz_0 := HZ.c0
            have hz_1 := HZ.c1
            have hz_l := HZ.lt
            have hz_f0 := HZ.f0
            have hz_f1 := HZ.f1
            go_wp2_with fail
            refine bodyPost_ret (v := .agg #[.bool sv, .slice An (dq v.natAbs) cn]) (by simp [results, Tryz.results13, go_sem, hz_0, hz_1]) rfl ?_
            exact zret zn HZ HB (by omega)
          · subst hc
            subst hv
            obtain rfl : sv = sf := HSV.out.trans zf.2.out.symm
            have hf_0 := HF.c0
            have hf_1 := HF.c1
            have hf_l := HF.lt
            have hz_0 := HZ.c0
            have hz_1 := HZ.c1
            have hz_l := HZ.lt
            have hz_f0 := HZ.f0
            have hz_f1 := HZ.f1
            go_wp2_with fail
            refine bodyPost_ret (v := .agg #[.bool sv, .slice Af (dq v.natAbs) cf']) (by simp [results, Tryz.results13, go_sem, hz_0, hz_1]) rfl ?_
            exact zret zf HZ HB (by omega)
          · subst hc
            subst hv
            obtain rfl : sv = sl := HSV.out.trans zl.2.out.symm
            have d0 : ((dq rr : Int) == 0) = true := by rw [hd]; first | (rw [dq_zero]; rfl) | rfl | decide +kernel
            have d1 : (dq rr = 0) = True := by rw [hd]; first | (rw [dq_zero]; simp) | (have h9 := dq_pos.2 (show 0 < 1 by decide); simp; omega)
            clear hd
            go_upto_region 27 with fail
            replace HZ := HZ.dr
            replace HL := HL.dr
            replace HH := HH.dr
            replace zl := zl.dr
            replace zh := zh.dr
            replace HB := HB.dr
            refine wp_region_held_drew (S := fun w' => w'.cell? ⟨pl, 0, none⟩ = some (.bool sv) ∧ w'.cell? ⟨pl, 1, none⟩ = some (.slice Al (dq v.natAbs) cl)) (by kernel_rfl) ?_ (fun hHeld => ?_)
            · exact ⟨HL.c0, HL.c1⟩
            generalize W8.drew = Wd2 at *
            (refine wpAnyH_take (i := 0) (v := ?_) rfl (by decide +kernel) (by decide +kernel) (by decide +kernel) (fun _ _ _ h => h) (Or.inl ⟨by rfl, ?_⟩) (by assumption) ?_; rotate_left; (focus ((intro w hSw; (try dsimp only at hSw); go_simp); (try (with_reducible rfl)); done)); (try simp only [List.getElem_toArray, List.getElem_cons_zero, List.getElem_cons_succ, Act.put, List.setIfInBounds_toArray, List.set_cons_zero, List.set_cons_succ]))
            (refine wpAnyH_take (i := 1) (v := ?_) rfl (by decide +kernel) (by decide +kernel) (by decide +kernel) (fun _ _ _ h => h) (Or.inl ⟨by rfl, ?_⟩) (by assumption) ?_; rotate_left; (focus ((intro w hSw; (try dsimp only at hSw); go_simp); (try (with_reducible rfl)); done)); (try simp only [List.getElem_toArray, List.getElem_cons_zero, List.getElem_cons_succ, Act.put, List.setIfInBounds_toArray, List.set_cons_zero, List.set_cons_succ]))
            (refine wpAnyH_ready (rs := [2]) (by decide +kernel) (by simp) ?_; refine AllReadyH.cons rfl (fun K hK => ?_) AllReadyH.nil; go_simp; (go_at_call 41; (with_reducible refine (CS2.out _).mono ?_); rintro e y1 ⟨B1, e1, rfl, k1, hbk⟩; (with_reducible (replace HZ := HZ.up hbk; replace HL := HL.up hbk; replace HH := HH.up hbk; replace zl := zl.up hbk; replace zh := zh.up hbk; replace HB := HB.up hbk))); (try (go_wp2_with fail)); refine hK.out _ _ ?_ (fun hHeld => ?_); (focus ((try dsimp only); (with_reducible exact ⟨HL.c0, HL.c1⟩))); clear hK K; (try simp only [List.getElem_toArray, List.getElem_cons_zero, List.getElem_cons_succ, Act.put, List.setIfInBounds_toArray, List.set_cons_zero, List.set_cons_succ]))
            (refine wpAnyH_ready (rs := [3]) (by decide +kernel) (by simp) ?_; refine AllReadyH.cons rfl (fun K hK => ?_) AllReadyH.nil; go_simp; (go_at_call 42; (with_reducible refine (CD.out _ _ _ _ _ zl k1).mono ?_); rintro e y2 ⟨B2, e2, B3, e3, rfl, k2, k3, hbk⟩; (with_reducible (replace HZ := HZ.up hbk; replace HL := HL.up hbk; replace HH := HH.up hbk; replace zl := zl.up hbk; replace zh := zh.up hbk; replace HB := HB.up hbk))); (try (go_wp2_with fail)); refine hK.out _ _ ?_ (fun hHeld => ?_); (focus ((try dsimp only); (with_reducible exact ⟨HL.c0, HL.c1⟩))); clear hK K; (try simp only [List.getElem_toArray, List.getElem_cons_zero, List.getElem_cons_succ, Act.put, List.setIfInBounds_toArray, List.set_cons_zero, List.set_cons_succ]))
            (refine wpAnyH_take (i := 4) (v := ?_) rfl (by decide +kernel) (by decide +kernel) (by decide +kernel) (fun _ _ _ h => h) (Or.inl ⟨by rfl, ?_⟩) (by assumption) ?_; rotate_left; (focus ((intro w hSw; (try dsimp only at hSw); go_simp); (try (with_reducible rfl)); done)); (try simp only [List.getElem_toArray, List.getElem_cons_zero, List.getElem_cons_succ, Act.put, List.setIfInBounds_toArray, List.set_cons_zero, List.set_cons_succ]))
            (refine wpAnyH_take (i := 5) (v := ?_) rfl (by decide +kernel) (by decide +kernel) (by decide +kernel) (fun _ _ _ h => h) (Or.inl ⟨by rfl, ?_⟩) (by assumption) ?_; rotate_left; (focus ((intro w hSw; (try dsimp only at hSw); go_simp); (try (with_reducible rfl)); done)); (try simp only [List.getElem_toArray, List.getElem_cons_zero, List.getElem_cons_succ, Act.put, List.setIfInBounds_toArray, List.set_cons_zero, List.set_cons_succ]))
            (refine wpAnyH_take (i := 6) (v := ?_) rfl (by decide +kernel) (by decide +kernel) (by decide +kernel) (fun _ _ _ h => h) (Or.inl ⟨by rfl, ?_⟩) (by assumption) ?_; rotate_left; (focus ((intro w hSw; (try dsimp only at hSw); go_simp); (try (with_reducible rfl)); done)); (try simp only [List.getElem_toArray, List.getElem_cons_zero, List.getElem_cons_succ, Act.put, List.setIfInBounds_toArray, List.set_cons_zero, List.set_cons_succ]))
            (refine wpAnyH_take (i := 7) (v := ?_) rfl (by decide +kernel) (by decide +kernel) (by decide +kernel) (fun _ _ _ h => h) (Or.inl ⟨by rfl, ?_⟩) (by assumption) ?_; rotate_left; (focus ((intro w hSw; (try dsimp only at hSw); go_simp); (try (with_reducible rfl)); done)); (try simp only [List.getElem_toArray, List.getElem_cons_zero, List.getElem_cons_succ, Act.put, List.setIfInBounds_toArray, List.set_cons_zero, List.set_cons_succ]))
            (refine wpAnyH_take (i := 8) (v := ?_) rfl (by decide +kernel) (by decide +kernel) (by decide +kernel) (fun _ _ _ h => h) (Or.inl ⟨by rfl, ?_⟩) (by assumption) ?_; rotate_left; (focus ((intro w hSw; (try dsimp only at hSw); go_simp); (try (with_reducible rfl)); done)); (try simp only [List.getElem_toArray, List.getElem_cons_zero, List.getElem_cons_succ, Act.put, List.setIfInBounds_toArray, List.set_cons_zero, List.set_cons_succ]))
            refine wpAnyH_done (by decide +kernel) ?_ _
            have hl_0 := HL.c0
            have hl_1 := HL.c1
            have hl_l := HL.lt
            have hz_0 := HZ.c0
            have hz_1 := HZ.c1
            have hz_l := HZ.lt
            have hz_f0 := HZ.f0
            have hz_f1 := HZ.f1
            go_wp2_with fail
            refine bodyPost_ret (v := .agg #[.bool sv, .slice Al (dq v.natAbs) cl]) (by simp [results, Tryz.results13, go_sem, hz_0, hz_1]) rfl ?_
            exact zret zl HZ HB (by omega)
          · subst hc
            subst hv
            obtain rfl : sv = sh := HSV.out.trans zh.2.out.symm
            have d0 : ((dq rr : Int) == 0) = false := by rw [hd]; first | (rw [dq_zero]; rfl) | rfl | decide +kernel
            have d1 : (dq rr = 0) = False := by rw [hd]; first | (rw [dq_zero]; simp) | (have h9 := dq_pos.2 (show 0 < 1 by decide); simp; omega)
            clear hd
            go_upto_region 27 with fail
            replace HZ := HZ.dr
            replace HL := HL.dr
            replace HH := HH.dr
            replace zl := zl.dr
            replace zh := zh.dr
            replace HB := HB.dr
            refine wp_region_held_drew (S := fun w' => w'.cell? ⟨pl, 0, none⟩ = some (.bool sl) ∧ w'.cell? ⟨pl, 1, none⟩ = some (.slice Al (dq lo.natAbs) cl)) (by kernel_rfl) ?_ (fun hHeld => ?_)
            · exact ⟨HL.c0, HL.c1⟩
            generalize W8.drew = Wd2 at *
            (refine wpAnyH_take (i := 0) (v := ?_) rfl (by decide +kernel) (by decide +kernel) (by decide +kernel) (fun _ _ _ h => h) (Or.inl ⟨by rfl, ?_⟩) (by assumption) ?_; rotate_left; (focus ((intro w hSw; (try dsimp only at hSw); go_simp); (try (with_reducible rfl)); done)); (try simp only [List.getElem_toArray, List.getElem_cons_zero, List.getElem_cons_succ, Act.put, List.setIfInBounds_toArray, List.set_cons_zero, List.set_cons_succ]))
            (refine wpAnyH_take (i := 1) (v := ?_) rfl (by decide +kernel) (by decide +kernel) (by decide +kernel) (fun _ _ _ h => h) (Or.inl ⟨by rfl, ?_⟩) (by assumption) ?_; rotate_left; (focus ((intro w hSw; (try dsimp only at hSw); go_simp); (try (with_reducible rfl)); done)); (try simp only [List.getElem_toArray, List.getElem_cons_zero, List.getElem_cons_succ, Act.put, List.setIfInBounds_toArray, List.set_cons_zero, List.set_cons_succ]))
            (refine wpAnyH_ready (rs := [2]) (by decide +kernel) (by simp) ?_; refine AllReadyH.cons rfl (fun K hK => ?_) AllReadyH.nil; go_simp; (go_at_call 41; (with_reducible refine (CS2.out _).mono ?_); rintro e y1 ⟨B1, e1, rfl, k1, hbk⟩; (with_reducible (replace HZ := HZ.up hbk; replace HL := HL.up hbk; replace HH := HH.up hbk; replace zl := zl.up hbk; replace zh := zh.up hbk; replace HB := HB.up hbk))); (try (go_wp2_with fail)); refine hK.out _ _ ?_ (fun hHeld => ?_); (focus ((try dsimp only); (with_reducible exact ⟨HL.c0, HL.c1⟩))); clear hK K; (try simp only [List.getElem_toArray, List.getElem_cons_zero, List.getElem_cons_succ, Act.put, List.setIfInBounds_toArray, List.set_cons_zero, List.set_cons_succ]))
            (refine wpAnyH_ready (rs := [3]) (by decide +kernel) (by simp) ?_; refine AllReadyH.cons rfl (fun K hK => ?_) AllReadyH.nil; go_simp; (go_at_call 42; (with_reducible refine (CD.out _ _ _ _ _ zl k1).mono ?_); rintro e y2 ⟨B2, e2, B3, e3, rfl, k2, k3, hbk⟩; (with_reducible (replace HZ := HZ.up hbk; replace HL := HL.up hbk; replace HH := HH.up hbk; replace zl := zl.up hbk; replace zh := zh.up hbk; replace HB := HB.up hbk))); (try (go_wp2_with fail)); refine hK.out _ _ ?_ (fun hHeld => ?_); (focus ((try dsimp only); (with_reducible exact ⟨HL.c0, HL.c1⟩))); clear hK K; (try simp only [List.getElem_toArray, List.getElem_cons_zero, List.getElem_cons_succ, Act.put, List.setIfInBounds_toArray, List.set_cons_zero, List.set_cons_succ]))
            (refine wpAnyH_take (i := 4) (v := ?_) rfl (by decide +kernel) (by decide +kernel) (by decide +kernel) (fun _ _ _ h => h) (Or.inl ⟨by rfl, ?_⟩) (by assumption) ?_; rotate_left; (focus ((intro w hSw; (try dsimp only at hSw); go_simp); (try (with_reducible rfl)); done)); (try simp only [List.getElem_toArray, List.getElem_cons_zero, List.getElem_cons_succ, Act.put, List.setIfInBounds_toArray, List.set_cons_zero, List.set_cons_succ]))
            (refine wpAnyH_take (i := 5) (v := ?_) rfl (by decide +kernel) (by decide +kernel) (by decide +kernel) (fun _ _ _ h => h) (Or.inl ⟨by rfl, ?_⟩) (by assumption) ?_; rotate_left; (focus ((intro w hSw; (try dsimp only at hSw); go_simp); (try (with_reducible rfl)); done)); (try simp only [List.getElem_toArray, List.getElem_cons_zero, List.getElem_cons_succ, Act.put, List.setIfInBounds_toArray, List.set_cons_zero, List.set_cons_succ]))
            (refine wpAnyH_take (i := 6) (v := ?_) rfl (by decide +kernel) (by decide +kernel) (by decide +kernel) (fun _ _ _ h => h) (Or.inl ⟨by rfl, ?_⟩) (by assumption) ?_; rotate_left; (focus ((intro w hSw; (try dsimp only at hSw); go_simp); (try (with_reducible rfl)); done)); (try simp only [List.getElem_toArray, List.getElem_cons_zero, List.getElem_cons_succ, Act.put, List.setIfInBounds_toArray, List.set_cons_zero, List.set_cons_succ]))
            (refine wpAnyH_take (i := 7) (v := ?_) rfl (by decide +kernel) (by decide +kernel) (by decide +kernel) (fun _ _ _ h => h) (Or.inl ⟨by rfl, ?_⟩) (by assumption) ?_; rotate_left; (focus ((intro w hSw; (try dsimp only at hSw); go_simp); (try (with_reducible rfl)); done)); (try simp only [List.getElem_toArray, List.getElem_cons_zero, List.getElem_cons_succ, Act.put, List.setIfInBounds_toArray, List.set_cons_zero, List.set_cons_succ]))
            (refine wpAnyH_take (i := 8) (v := ?_) rfl (by decide +kernel) (by decide +kernel) (by decide +kernel) (fun _ _ _ h => h) (Or.inl ⟨by rfl, ?_⟩) (by assumption) ?_; rotate_left; (focus ((intro w hSw; (try dsimp only at hSw); go_simp); (try (with_reducible rfl)); done)); (try simp only [List.getElem_toArray, List.getElem_cons_zero, List.getElem_cons_succ, Act.put, List.setIfInBounds_toArray, List.set_cons_zero, List.set_cons_succ]))
            refine wpAnyH_done (by decide +kernel) ?_ _
            have hh_0 := HH.c0
            have hh_1 := HH.c1
            have hh_l := HH.lt
            have hz_0 := HZ.c0
            have hz_1 := HZ.c1
            have hz_l := HZ.lt
            have hz_f0 := HZ.f0
            have hz_f1 := HZ.f1
            go_wp2_with fail
            refine bodyPost_ret (v := .agg #[.bool sv, .slice Ah (dq v.natAbs) ch]) (by simp [results, Tryz.results13, go_sem, hz_0, hz_1]) rfl ?_
            exact zret zh HZ HB (by omega)
end Go.Proofs.YtmiklffjffdkgaaGreatDoor
