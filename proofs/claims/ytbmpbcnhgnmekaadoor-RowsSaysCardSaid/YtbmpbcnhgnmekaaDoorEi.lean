/- rows.Show. Conditions: a text that fits. -/
import Derived.Test.YtbmpbcnhgnmekaaDoorEf
open Go.RowKit
set_option maxRecDepth 100000
namespace Go.Proofs.YtbmpbcnhgnmekaaDoor
def StrR (W : World) (s : ByteArray) (e : Ending) (w' : World) : Prop := e = .returned (.string s) ∧ Hid (Below W.heap.size W w')
theorem plain_of {w : World} {ad : Addr} {v : Value} (h : w.cell? ad = some v) : ∃ b o, ad = ⟨b, o, none⟩ := by
  obtain ⟨b, o, sp⟩ := ad
  cases sp with
  | none => exact ⟨b, o, rfl⟩
  | some k =>
    unfold World.cell? at h
    split at h
    · simp at h
    · cases h
/-- The words of a row with a space between them. -/
def joinW (xs : List ByteArray) : ByteArray := ⟨(glue 32 (xs.map (·.data.toList))).toArray⟩
theorem sjoin_w {w : World} {A : Option Addr} {n c : Nat} {xs : List ByteArray} {t : ByteArray} (ht : joinW xs = t) (h : Ss w A xs) (hn : n = xs.length) (hc : n ≤ c) (hN : n ≤ 1000000) (hl : (joinW xs).size ≤ 140737488355328) :
    Calls Tryd.prog 23 #[.slice A n c, .string ⟨#[32]⟩] w (StrR w t) := by
  subst hn
  subst ht
  have hl' : (glue 32 (xs.map (·.data.toList))).length ≤ 140737488355328 := by rw [Lib.size_eq] at hl; exact hl
  cases xs with
  | nil =>
    refine (Tryd.strings_Join_none A c ⟨#[32]⟩ w).mono fun e w' ⟨he, hw⟩ => ⟨by rw [he]; rfl, by rw [hw]; exact Below.refl _ _⟩
  | cons x xs =>
    obtain ⟨ad, rfl, hb, hcell⟩ := h.out (by simp)
    have h0 := hcell 0 x rfl
    obtain ⟨b, o, hbo⟩ := plain_of h0
    rw [show ad.add 0 = ad by simp [Addr.add]] at hbo
    subst hbo
    have hcl : ∀ (j : Nat) y, (x :: xs)[j]? = some y → w.cell? ⟨b, o + j, none⟩ = some (.string y) := fun j y hj => by
      have h1 := hcell j y hj
      have e : (⟨b, o, none⟩ : Addr).add j = ⟨b, o + j, none⟩ := by unfold Addr.add; split <;> simp_all
      rwa [e] at h1
    have c1 := Tryd.strings_Join b o c (x :: xs) ⟨#[32]⟩ w hcl hb (by omega) hc (by rw [show (⟨#[32]⟩ : ByteArray).data.toList = [32] from rfl, join_glue]; exact hl')
    refine c1.mono fun e w' ⟨he, hw⟩ => ⟨?_, hw⟩
    rw [he, show (⟨#[32]⟩ : ByteArray).data.toList = [32] from rfl, join_glue]; rfl
/-- What Show writes. -/
def showL (rs : List TRow) : List UInt8 := (rs.map fun r => (joinW r.2).data.toList ++ [10]).flatten
def showB (rs : List TRow) : ByteArray := ⟨(showL rs).toArray⟩
section
variable {rs : List TRow} {k : Nat} {r : TRow}
theorem showL_more (h : rs[k]? = some r) : showL (rs.take (k + 1)) = showL (rs.take k) ++ (joinW r.2).data.toList ++ [10] := by
  have hk := (List.getElem?_eq_some_iff.1 h).1
  unfold showL
  rw [List.take_succ_eq_append_getElem hk, (List.getElem?_eq_some_iff.1 h).2, List.map_append, List.flatten_append]
  simp
theorem showL_le (k : Nat) : (showL (rs.take k)).length ≤ (showL rs).length := by
  conv => rhs; rw [← List.take_append_drop k rs]
  unfold showL
  rw [List.map_append, List.flatten_append, List.length_append]; omega
theorem showL_all (h : rs.length ≤ k) : showL (rs.take k) = showL rs := by rw [List.take_of_length_le h]
end
theorem build_below {T e : TypeId} {B b : Nat} {bs : List Value} {w w' : World} (h : Lib.IsBuilder T e B b bs w) (hb : Below w.heap.size w w') : Lib.IsBuilder T e B b bs w' := by
  have key : ∀ p, Lib.BuilderAt T e B b p bs w → Lib.BuilderAt T e B b p bs w' := fun p ⟨h1, v, h2, h3, h4⟩ =>
    ⟨h1, v, (hb.block b (Array.getElem?_eq_some_iff.1 h2).1).trans h2, h3.kept (grown_below (B := 0) hb) (by cases v.ownBlock <;> simp), h4⟩
  exact h.imp (key _) (key _)
/-- Row k of a slice that reads as rows. -/
theorem Rs.row {W : World} {A : Option Addr} {rs : List TRow} {k : Nat} {r : TRow} (h : Rs W A rs) (hk : rs[k]? = some r) : ∃ g A' c, A = some ⟨g, 0, none⟩ ∧ g < W.heap.size ∧ W.cell? ⟨g, k * 2, none⟩ = some (.int .i64 (r.1 : Int)) ∧ W.cell? ⟨g, k * 2 + 1, none⟩ = some (.slice A' r.2.length c) ∧ (A' = none → c = 0) ∧ r.2.length ≤ c ∧ Ss W A' r.2 := by
  have hlt := (List.getElem?_eq_some_iff.1 hk).1
  obtain ⟨g, vs, e, hb, hl, hc⟩ := h.out (by omega)
  have hv : vs[k]? = some vs[k] := List.getElem?_eq_getElem (by omega)
  obtain ⟨h1, h2, A', c, h3, h4, h5, h6⟩ := hc k r _ hk hv
  exact ⟨g, A', c, e, hb, h1, by rw [h2, h3], h4, h5, h6⟩
set_option maxHeartbeats 8000000 in
theorem show_any {W : World} {A : Option Addr} {n c : Nat} {rs : List TRow} {t : ByteArray} (ht : showB rs = t) (h : Rs W A rs) (hn : n = rs.length) (hN : n ≤ 1000000) (hw : ∀ r ∈ rs, r.2.length ≤ 1000000) (hl : (showL rs).length ≤ 1000000000) :
    Calls Tryd.prog 15 #[.slice A n c] W (StrR W t) := by
  have HN := ehide hn
  have HT := ehide ht
  have HL := ehide hl
  have HWS := ehide hw
  clear hn ht hw hl
  go_enter Tryd.func15, Tryd.ntmps15
  go_wp2
  obtain ⟨W0, hW0⟩ : ∃ X, X = W.alloc (.cells #[.pointer none, .slice none 0 0] 50) := ⟨_, rfl⟩
  rw [← hW0]
  have HB0 : Hid (Lib.IsBuilder 50 5 W.heap.size W.heap.size (Lib.byteCells (showL (rs.take 0))) W0) := by
    rw [hW0]
    exact Or.inl ⟨Nat.le_refl _, .slice none 0 0, World.alloc_heap_new W _, World.ownsRow_nil _ _ _ _, by simp [Value.ownBlock]⟩
  have HW0 : Hid (Below W.heap.size W W0) := by rw [hW0]; exact (Below.refl _ _).alloc (Nat.le_refl _) _
  clear hW0
  go_loopw [8] (fun iv wr => ∃ k : Nat, k ≤ n ∧ iv = .int .i64 (k : Int) ∧ Hid (Lib.IsBuilder 50 5 W.heap.size W.heap.size (Lib.byteCells (showL (rs.take k))) wr) ∧ Hid (Below W.heap.size W wr)) (fun iv _ => n - (intOf iv).toNat)
  case atStart => exact ⟨0, Nat.zero_le _, rfl, HB0, HW0⟩
  case round =>
    obtain ⟨k, hk, rfl, HB, HW⟩ := hrel
    have HBW := ehide HW.out.size
    by_cases hlt : k < n
    · obtain ⟨r, hr⟩ : ∃ r, rs[k]? = some r := ⟨rs[k]'(by rw [← HN.out]; exact hlt), List.getElem?_eq_getElem (by rw [← HN.out]; exact hlt)⟩
      obtain ⟨g, A2, c2, rfl, hg, hc0, hc1, hA2, hcc, hss⟩ := (h.up HW).row hr
      have hrm : r ∈ rs := List.mem_of_getElem? hr
      have hsz : (joinW r.2).size ≤ 1000000000 ∧ (showL (rs.take k)).length + (joinW r.2).size + 1 ≤ 1000000000 := by
        have h1 := showL_le (rs := rs) (k + 1)
        rw [showL_more hr, List.length_append, List.length_append, ← Lib.size_eq] at h1
        have h2 := HL.out
        simp only [List.length_singleton] at h1
        omega
      obtain ⟨t2, ht2⟩ : ∃ t, joinW r.2 = t := ⟨_, rfl⟩
      rw [ht2] at hsz
      have HM := ehide (showL_more hr)
      rw [ht2] at HM
      have CJ : Hid (∀ o : Obj, Calls Tryd.prog 23 #[.slice A2 r.2.length c2, .string ⟨#[32]⟩] (wr.alloc o) (StrR (wr.alloc o) t2)) := fun o =>
        sjoin_w ht2 (hss.al o) rfl hcc (HWS.out r hrm) (by rw [ht2]; omega)
      obtain ⟨r1, r2⟩ := r
      obtain ⟨m, hm⟩ : ∃ m, r2.length = m := ⟨_, rfl⟩
      have hc0' : wr.cell? ⟨g, k * 2, none⟩ = some (.int .i64 (r1 : Int)) := hc0
      have hc1' : wr.cell? ⟨g, k * 2 + 1, none⟩ = some (.slice A2 m c2) := by rw [← hm]; exact hc1
      replace CJ : Hid (∀ o : Obj, Calls Tryd.prog 23 #[.slice A2 m c2, .string ⟨#[32]⟩] (wr.alloc o) (StrR (wr.alloc o) t2)) := by rw [← hm]; exact CJ
      have HB' := HB
      obtain ⟨q, hq⟩ : ∃ q, (showL (rs.take k)).length = q := ⟨_, rfl⟩
      have HQ := ehide hq
      rw [hq] at hsz
      clear hm hc0 hc1 hcc hss hr hrm hA2 ht2 hq
      go_wp2_with (first | (go_at_call 23; (with_reducible refine (CJ.out _).mono ?_); rintro e w2 ⟨rfl, hb2⟩) | fail)
      have HB2 := ehide (build_below (build_below HB.out ((Below.refl _ _).alloc (Nat.le_refl _) _)) hb2.out)
      have HW2 : Hid (Below W.heap.size W w2) := (HW.out.alloc HBW.out _).trans (hb2.out.mono (by have := HBW.out; simp; omega))
      have HZ2 := ehide HW2.out.size
      refine (Tryd.writeString W.heap.size W.heap.size _ t2 w2 HB2.out (by rw [Lib.byteCells_length, HQ.out]; omega) HZ2.out).mono ?_
      rintro e w3 ⟨rfl, h3, hb3⟩
      have HZ3 := ehide (Nat.le_trans HZ2.out hb3.size)
      have H3 := ehide h3
      have HW3 := ehide (HW2.out.trans hb3)
      clear h3 hb3
      go_wp2_with fail
      refine (Tryd.writeString W.heap.size W.heap.size _ ⟨#[10]⟩ w3 (Or.inr H3.out) (by rw [List.length_append, Lib.byteCells_length, HQ.out, Lib.strCells_length]; show q + t2.size + 1 ≤ 140737488355328; omega) HZ3.out).mono ?_
      rintro e w4 ⟨rfl, h4, hb4⟩
      have H4 : Hid (Lib.IsBuilder 50 5 W.heap.size W.heap.size (Lib.byteCells (showL (rs.take (k + 1)))) w4) := by
        rw [Lib.strCells_eq, Lib.strCells_eq, ← Lib.byteCells_append, ← Lib.byteCells_append] at h4
        rw [HM.out]
        exact Or.inr h4
      have HW4 := ehide (HW3.out.trans hb4)
      clear h4 hb4
      go_wp2
      go_roundw
      case rel => exact ⟨k + 1, by omega, by go_num, H4, HW4⟩
      case measure => simp [intOf]; omega
    · obtain rfl : k = n := by omega
      have HB1 : Hid (Lib.IsBuilder 50 5 W.heap.size W.heap.size (Lib.byteCells (showL rs)) wr) := by
        have h1 := HB.out
        rwa [showL_all (by rw [HN.out]; exact Nat.le_refl _)] at h1
      go_wp2_with fail
      refine (Tryd.Builder_String_any W.heap.size W.heap.size _ wr HB1.out HBW.out).mono ?_
      rintro e w5 ⟨rfl, hb5⟩
      have HW5 := ehide (HW.out.trans hb5)
      clear hb5
      go_wp2
      go_ret
      refine ⟨?_, HW5⟩
      show Ending.returned (.string ⟨(showL rs).toArray⟩) = _
      rw [← HT.out]; rfl
end Go.Proofs.YtbmpbcnhgnmekaaDoor
