/- Several texts in one, each with its own sentence and conditions. -/
import Derived.Test.YteieelgdiccppaaDoorGNkc17
import Derived.Test.YteieelgdiccppaaDoorGNkc18
import Derived.Test.YteieelgdiccppaaDoorGNkc9
section
/- Package num: Text, Good of a valid number. Conditions: at most 100000 words. -/
open Go.RowKit
set_option maxRecDepth 100000
namespace Go.Proofs.YteieelgdiccppaaDoor
/-- An integer's letters. -/
def decZ (z : Int) : List UInt8 := if z < 0 then 45 :: decL z.natAbs else decL z.natAbs
def TxR (W : World) (l : List UInt8) (e : Ending) (w' : World) : Prop := ∃ t : ByteArray, e = .returned (.string t) ∧ Hid (t.data.toList = l) ∧ Hid (Below W.heap.size W w')
section
variable {W : World} {b : Bool} {A : Option Addr} {n c : Nat} {z : Int}
theorem text_h {m : Nat} (h : Nm W A n c m) : Calls Tryd.prog 17 #[.agg #[.slice A n c]] W (TxR W (decL m)) := (Text_any h.out).mono fun _ _ h => h
theorem decL_len {W : World} {A : Option Addr} {n c m : Nat} (h : Nm W A n c m) : (decL m).length ≤ 1000001 := by
  have h1 : m < 10 ^ (10 * dl m + 1) := by
    have h2 : m < W32 ^ dl m := lt_pow_digs (b := W32) (by decide) m
    have h3 : W32 ^ dl m ≤ (10 ^ 10) ^ dl m := Nat.pow_le_pow_left (by decide) _
    rw [← Nat.pow_mul] at h3
    exact Nat.lt_of_lt_of_le h2 (Nat.le_trans h3 (Nat.pow_le_pow_right (by decide) (by omega)))
  have := dt_le h1 (by omega)
  have := h.dl
  omega
set_option maxHeartbeats 1000000 in
theorem ztext_h (h : ZA W b A n c z) : Calls Tryd.prog 32 #[.agg #[.bool b, .slice A n c]] W (TxR W (decZ z)) := by
  have CT : Hid (∀ W', Below W.heap.size W W' → Calls Tryd.prog 17 #[.agg #[.slice A n c]] W' (TxR W' (decL z.natAbs))) := fun W' hb => text_h (h.up hb).1
  have HLEN := hide (decL_len h.1)
  by_cases hn : z < 0
  · have CS : Hid (∀ o, Calls Tryd.prog 30 #[.agg #[.bool b, .slice A n c]] (W.alloc o) (IntPost (W.alloc o) (-1))) := fun o => sign_h (h.al o) (Int.sign_eq_neg_one_of_neg hn)
    have HZ : Hid (decZ z = 45 :: decL z.natAbs) := if_pos hn
    clear h hn
    go_enter Tryd.func32, Tryd.ntmps32
    go_wp2_with (first | (go_at_call 30; (with_reducible refine (CS.out _).mono ?_); rintro e w1 ⟨rfl, hbk⟩; obtain ⟨e0, e1, hsz, hbx⟩ := bz1 hbk) | (go_at_call 17; (with_reducible refine (CT.out _ hbx.out).mono ?_); rintro e w2 ⟨t, rfl, ht, hbk2⟩; have hts : t.size ≤ 1000001 := (by rw [size_list, ht.out]; exact HLEN.out)) | fail)
    all_goals first
      | (go_ret
         refine ⟨_, rfl, ?_, chain hbx hbk2.out⟩
         unfold Hid
         rw [HZ.out, ← ht.out]
         simp)
      | (exfalso; omega)
  · by_cases h0 : z = 0
    all_goals
      have CS : Hid (∀ o, ∃ s, 0 ≤ s ∧ Calls Tryd.prog 30 #[.agg #[.bool b, .slice A n c]] (W.alloc o) (IntPost (W.alloc o) s)) := fun o => ⟨_, by first | (subst h0; decide) | (rw [Int.sign_eq_one_of_pos (by omega)]; decide), sign_h (h.al o) rfl⟩
      have HZ : Hid (decZ z = decL z.natAbs) := if_neg hn
      obtain ⟨s, hs0, hs⟩ := CS.out (.cells #[.bool b, .slice A n c] 47)
      have CS2 := hide hs
      clear h hn h0 CS hs
      go_enter Tryd.func32, Tryd.ntmps32
      go_wp2_with (first | (go_at_call 30; (with_reducible refine CS2.out.mono ?_); rintro e w1 ⟨rfl, hbk⟩; obtain ⟨e0, e1, hsz, hbx⟩ := bz1 hbk) | (go_at_call 17; (with_reducible refine (CT.out _ hbx.out).mono ?_); rintro e w2 ⟨t, rfl, ht, hbk2⟩) | fail)
      go_ret
      exact ⟨t, rfl, by unfold Hid; rw [HZ.out]; exact ht.out, chain hbx hbk2.out⟩
end
end Go.Proofs.YteieelgdiccppaaDoor
end

section
/- The document's own integers. No conditions. -/
open Go.RowKit
set_option maxRecDepth 100000
namespace Go.Proofs.YteieelgdiccppaaDoor
/-- What a call of the document's own leaves that returns an integer. -/
def RZ (W : World) (z : Int) (e : Ending) (w' : World) : Prop := ∃ A c, e = .returned (.agg #[.bool (decide (z < 0)), .slice A (dq z.natAbs) c]) ∧ Hid (RN w' w'.heap.size A c z.natAbs) ∧ Hid (Below W.heap.size W w')
theorem RN.setn {W : World} {B : Nat} {A : Option Addr} {c m : Nat} (h : RN W B A c m) {p : Addr} {v : Value} (hc : W.cell? p = some v) (hv : ∀ x : Nat, v ≠ I64 x) (u : Value) : RN (W.setCell p u) B A c m := by
  refine ⟨h.1, fun hn => ?_⟩
  obtain ⟨ad, e, hb, hx⟩ := h.2 hn
  refine ⟨ad, e, hb, fun j x hj => ?_⟩
  have h6 := hx j x hj
  rw [World.cell?_setCell_other W p _ u (by intro e; rw [← e, hc] at h6; injection h6 with h6; exact hv x h6)]
  exact h6
theorem rn_z2 {W : World} {A : Option Addr} {c m g : Nat} {v0 : Bool} {a : Option Addr} {l k : Nat} {x y : Value} (h : Hid (RN W W.heap.size A c m)) (e0 : W.cell? ⟨g, 0, none⟩ = some (.bool v0)) (e1 : W.cell? ⟨g, 1, none⟩ = some (.slice a l k)) :
    Hid (RN ((W.setCell ⟨g, 0, none⟩ x).setCell ⟨g, 1, none⟩ y) ((W.setCell ⟨g, 0, none⟩ x).setCell ⟨g, 1, none⟩ y).heap.size A c m) := by
  have h1 := (h.out.setn e0 (by intro x hx; cases hx) x).setn (p := ⟨g, 1, none⟩) ((World.cell?_setCell_other _ _ _ _ (by intro e; cases e)).trans e1) (by intro x hx; cases hx) y
  have : ((W.setCell ⟨g, 0, none⟩ x).setCell ⟨g, 1, none⟩ y).heap.size = W.heap.size := by simp [World.setCell]
  unfold Hid
  rw [this]; exact h1
section
variable {W : World} {z : Int}
set_option maxHeartbeats 2000000 in
theorem zint_h (h1 : -9223372036854775808 ≤ z) (h2 : z ≤ 9223372036854775807) : Calls Tryd.prog 34 #[.int .i64 z] W (RZ W z) := by
  by_cases hn : z < 0
  · have e : -(z + 1) = ((z.natAbs - 1 : Nat) : Int) := by omega
    have CS1 : Hid (∀ W', Calls Tryd.prog 19 #[.int .u64 (-(z + 1))] W' (RefPost W' (z.natAbs - 1))) := fun W' => by rw [e]; exact Small_any (by omega)
    have CS2 : Hid (∀ W', Calls Tryd.prog 19 #[.int .u64 1] W' (RefPost W' 1)) := fun W' => Small_any (n := 1) (by omega)
    have CA : Hid (∀ W' B d B' d', Hid (RN W' W'.heap.size B d (z.natAbs - 1)) → Hid (RN W' W'.heap.size B' d' 1) → Calls Tryd.prog 91 #[.slice B (dq (z.natAbs - 1)) d, .slice B' (dq 1) d'] W' (RefPost W' z.natAbs)) := fun W' B d B' d' h h' => by
      have h3 := rAdd_any h.out h'.out (Nat.le_trans (dq_u64 (by omega)) (by omega)) (Nat.le_trans (dq_u64 (by omega)) (by omega))
      rwa [show z.natAbs - 1 + 1 = z.natAbs by omega] at h3
    have HZ : Hid (decide (z < 0) = true) := decide_eq_true hn
    clear e
    go_enter Tryd.func34, Tryd.ntmps34
    go_wp2_with (first | (go_at_call 19; (with_reducible refine (CS1.out _).mono ?_); rintro e w1 ⟨B, d, rfl, hn1, hbk⟩; have HR := hide ((zc_new _ _ _ _ _ _).up hbk); have HW : Hid (Below W.heap.size W w1) := (bz1 hbk).2.2.2) | (go_at_call 19; (with_reducible refine (CS2.out _).mono ?_); rintro e w2 ⟨B2, d2, rfl, hn2, hbk2⟩; replace HR := hide (HR.out.up hbk2); replace HW := chain HW hbk2.out; replace hn1 := hide ((hn1.out.below hbk2.out).more hbk2.out.size)) | (go_at_call 91; (with_reducible refine (CA.out _ _ _ _ _ hn1 hn2).mono ?_); rintro e w3 ⟨B3, d3, rfl, hn3, hbk3⟩; replace HR := hide (HR.out.up hbk3); replace HW := chain HW hbk3.out; have r0 := HR.out.c0; have r1 := HR.out.c1; have f0 := HR.out.f0; have f1 := HR.out.f1) | fail)
    refine bodyPost_ret (v := .agg #[.bool true, .slice B3 (dq z.natAbs) d3]) (by simp [results, Tryd.results34, go_sem, r0, r1]) rfl ?_
    exact ⟨B3, d3, by rw [HZ.out], rn_z2 hn3 r0 r1, (HW.out.setCell (by simp) _).setCell (by simp) _⟩
  · have e : IntKind.u64.wrap z = ((z.natAbs : Nat) : Int) := by rw [IntKind.wrap_u64]; omega
    have CS1 : Hid (∀ W', Calls Tryd.prog 19 #[.int .u64 (IntKind.u64.wrap z)] W' (RefPost W' z.natAbs)) := fun W' => by rw [e]; exact Small_any (by omega)
    have CS2 : Hid (∀ W', Calls Tryd.prog 19 #[.int .u64 z] W' (RefPost W' z.natAbs)) := fun W' => by rw [show z = ((z.natAbs : Nat) : Int) by omega]; exact Small_any (by omega)
    have HZ : Hid (decide (z < 0) = false) := decide_eq_false hn
    have hn' : 0 ≤ z := by omega
    clear e
    go_enter Tryd.func34, Tryd.ntmps34
    go_wp2_with (first | (go_at_call 19; (with_reducible refine (CS1.out _).mono ?_); rintro e w3 ⟨B3, d3, rfl, hn3, hbk⟩; have HR := hide ((zc_new _ _ _ _ _ _).up hbk); have HW : Hid (Below W.heap.size W w3) := (bz1 hbk).2.2.2; have r0 := HR.out.c0; have r1 := HR.out.c1; have f0 := HR.out.f0; have f1 := HR.out.f1) | (go_at_call 19; (with_reducible refine (CS2.out _).mono ?_); rintro e w3 ⟨B3, d3, rfl, hn3, hbk⟩; have HR := hide ((zc_new _ _ _ _ _ _).up hbk); have HW : Hid (Below W.heap.size W w3) := (bz1 hbk).2.2.2; have r0 := HR.out.c0; have r1 := HR.out.c1; have f0 := HR.out.f0; have f1 := HR.out.f1) | fail)
    refine bodyPost_ret (v := .agg #[.bool false, .slice B3 (dq z.natAbs) d3]) (by simp [results, Tryd.results34, go_sem, r0, r1]) rfl ?_
    exact ⟨B3, d3, by rw [HZ.out], rn_z2 hn3 r0 r1, (HW.out.setCell (by simp) _).setCell (by simp) _⟩
end
end Go.Proofs.YteieelgdiccppaaDoor
end

section
/- The document's own integers and fractions: ZOf, QOf. Conditions: less than 100000 fours of digits. -/
open Go.RowKit
set_option maxRecDepth 100000
namespace Go.Proofs.YteieelgdiccppaaDoor
/-- No number stands in a box of flags and slices. -/
def NoI (vs : List Value) : Prop := ∀ v ∈ vs, ∀ x : Nat, v ≠ I64 x
theorem RN.putn {W : World} {B p i : Nat} {vs : List Value} {A : Option Addr} {c m : Nat} (h : RN W B A c m) (hp : At W p vs) (hi : i < vs.length) (hw : NoI vs) (u : Value) : RN (W.setCell ⟨p, i, none⟩ u) B A c m :=
  h.setn (hp.all i _ (List.getElem?_eq_getElem hi)).1 (hw _ (List.getElem_mem hi)) u
/-- In world W the document's own number stands there. -/
def Rn (W : World) (A : Option Addr) (c m : Nat) : Prop := RN W W.heap.size A c m
theorem Rn.up {W W' : World} {A : Option Addr} {c m : Nat} (h : Rn W A c m) (hb : Hid (Below W.heap.size W W')) : Rn W' A c m := (RN.below h hb.out).more hb.out.size
theorem Rn.al {W : World} {A : Option Addr} {c m : Nat} (h : Rn W A c m) (o : Obj) : Rn (W.alloc o) A c m := h.up ((Below.refl _ _).alloc (Nat.le_refl _) o)
theorem Rn.dr {W : World} {A : Option Addr} {c m : Nat} (h : Rn W A c m) : Rn W.drew A c m := h
theorem Rn.of {W : World} {A : Option Addr} {c m : Nat} (h : Hid (RN W W.heap.size A c m)) : Rn W A c m := h
theorem Rn.put {W : World} {p i : Nat} {vs : List Value} {A : Option Addr} {c m : Nat} (h : Rn W A c m) (hp : At W p vs) (hi : i < vs.length) (hw : NoI vs) (u : Value) : Rn (W.setCell ⟨p, i, none⟩ u) A c m := by
  have h1 := RN.putn h hp hi hw u
  have e : (W.setCell ⟨p, i, none⟩ u).heap.size = W.heap.size := by simp [World.setCell]
  unfold Rn
  rw [e]; exact h1
theorem noi2 {b : Bool} {A : Option Addr} {n c : Nat} : NoI [.bool b, .slice A n c] := by
  intro u hu x
  simp at hu
  rcases hu with rfl | rfl <;> (intro e; cases e)
theorem noi3 {b : Bool} {A A' : Option Addr} {n c n' c' : Nat} : NoI [.bool b, .slice A n c, .slice A' n' c'] := by
  intro u hu x
  simp at hu
  rcases hu with rfl | rfl | rfl <;> (intro e; cases e)
theorem Rn.put2 {W : World} {p : Nat} {b0 : Bool} {B0 : Option Addr} {k0 d0 : Nat} {A : Option Addr} {c m : Nat} (h : Rn W A c m) (hp : At W p [.bool b0, .slice B0 k0 d0]) {b : Bool} {B : Option Addr} {k d : Nat} :
    Rn ((W.setCell ⟨p, 0, none⟩ (.bool b)).setCell ⟨p, 1, none⟩ (.slice B k d)) A c m :=
  (h.put hp (by simp) noi2 _).put (hp.put (i := 0) (by simp) (.bool b)) (by simp) noi2 _
theorem Rn.put3 {W : World} {p : Nat} {b0 : Bool} {B0 B1 : Option Addr} {k0 d0 k1 d1 : Nat} {A : Option Addr} {c m : Nat} (h : Rn W A c m) (hp : At W p [.bool b0, .slice B0 k0 d0, .slice B1 k1 d1]) {b : Bool} {B B' : Option Addr} {k d k' d' : Nat} :
    Rn (((W.setCell ⟨p, 0, none⟩ (.bool b)).setCell ⟨p, 1, none⟩ (.slice B k d)).setCell ⟨p, 2, none⟩ (.slice B' k' d')) A c m :=
  ((h.put hp (by simp) noi3 _).put (hp.put (i := 0) (by simp) (.bool b)) (by simp) noi3 _).put ((hp.put (i := 0) (by simp) (.bool b)).put (i := 1) (by simp) (.slice B k d)) (by simp) noi3 _
/-- What a call of the document's own leaves that returns a fraction. -/
def RQ (W : World) (r : Rat) (e : Ending) (w' : World) : Prop := ∃ A c A' c', e = .returned (.agg #[.bool (decide (r.num < 0)), .slice A (dq r.num.natAbs) c, .slice A' (dq r.den) c']) ∧ Rn w' A c r.num.natAbs ∧ Rn w' A' c' r.den ∧ Hid (Below W.heap.size W w')
def RZb (W : World) (b : Bool) (A : Option Addr) (n c m : Nat) (e : Ending) (w' : World) : Prop := e = .returned (.agg #[.bool b, .slice A n c]) ∧ Rn w' A c m ∧ Hid (Below W.heap.size W w')
theorem rn_two {W w0 : World} {p : Nat} {b0 : Bool} {B0 : Option Addr} {k0 d0 : Nat} {A : Option Addr} {c m : Nat} (hp : At W p [.bool b0, .slice B0 k0 d0]) (h : Rn W A c m) (hb : Bel w0 W) (hq : w0.heap.size ≤ p) (b : Bool) (n : Nat) :
    RZb w0 b A n c m (.returned (.agg #[.bool b, .slice A n c])) ((W.setCell ⟨p, 0, none⟩ (.bool b)).setCell ⟨p, 1, none⟩ (.slice A n c)) :=
  ⟨rfl, h.put2 hp, (Below.setCell hb hq _).setCell hq _⟩
section
variable {W : World} {A A' : Option Addr} {c c' m : Nat} {z : Int}
set_option maxHeartbeats 1000000 in
theorem rzof_h {b s : Bool} (h : Rn W A c m) (hs : s = (b && decide (0 < m))) : Calls Tryd.prog 92 #[.bool b, .slice A (dq m) c] W (RZb W s A (dq m) c m) := by
  have HE : Hid (∀ o, Rn (W.alloc o) A c m) := fun o => h.al o
  by_cases h0 : 0 < m
  · have h1 : 0 < dq m := dq_pos.2 h0
    have HS : Hid (s = b) := by unfold Hid; rw [hs, decide_eq_true h0, Bool.and_true]
    clear hs h h0
    cases b
    · go_enter Tryd.func92, Tryd.ntmps92
      go_wp2
      exact bodyPost_ret (v := .agg #[.bool false, .slice A (dq m) c]) (by simp [results, Tryd.results92, go_sem]) rfl ⟨by rw [HS.out], HE.out _, ((Bel.refl W).al _).hid⟩
    · go_enter Tryd.func92, Tryd.ntmps92
      go_wp2
      exact bodyPost_ret (v := .agg #[.bool true, .slice A (dq m) c]) (by simp [results, Tryd.results92, go_sem]) rfl ⟨by rw [HS.out], HE.out _, ((Bel.refl W).al _).hid⟩
  · have h1 : dq m = 0 := by have := dq_pos (n := m); omega
    have HS : Hid (s = false) := by unfold Hid; rw [hs, decide_eq_false h0, Bool.and_false]
    have HZ := hide h1
    clear hs h h0
    cases b
    all_goals
      go_enter Tryd.func92, Tryd.ntmps92
      go_wp2
      exact bodyPost_ret (v := .agg #[.bool false, .slice A 0 c]) (by simp [results, Tryd.results92, go_sem]) rfl ⟨by rw [HS.out, HZ.out], HE.out _, ((Bel.refl W).al _).hid⟩

theorem dq_mono {a b : Nat} (h : a ≤ b) : dq a ≤ dq b := digs_len_mono (b := D4) (by decide) h
theorem rz_of {s : Bool} {A : Option Addr} {c : Nat} {z : Int} {w' : World} {e : Ending} (h : RZb W s A (dq z.natAbs) c z.natAbs e w') (hs : s = decide (z < 0)) : RZ W z e w' := ⟨A, c, by rw [h.1, hs], h.2.1, h.2.2⟩
theorem zsig {b : Bool} {z : Int} (h : z = zi b z.natAbs) : decide (z < 0) = (b && decide (0 < z.natAbs)) := by
  cases b
  · rw [zi_false] at h; rw [Bool.false_and]; exact decide_eq_false (by omega)
  · rw [zi_true] at h
    by_cases h0 : 0 < z.natAbs
    · rw [decide_eq_true h0, Bool.true_and]; exact decide_eq_true (by omega)
    · rw [decide_eq_false h0, Bool.and_false]; exact decide_eq_false (by omega)
end
end Go.Proofs.YteieelgdiccppaaDoor
end
