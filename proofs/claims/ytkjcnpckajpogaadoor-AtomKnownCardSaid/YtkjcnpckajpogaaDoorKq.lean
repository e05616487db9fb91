/- AtomKnown's walk. No conditions. -/
import Derived.Test.YtkjcnpckajpogaaDoorKm
import Derived.Deep.CutRange
open Go.RowKit
set_option maxRecDepth 100000
namespace Go.Proofs.YtkjcnpckajpogaaDoor
/-- The cell at p holds v in world W, and goes on to. -/
def Cl (W : World) (p : Addr) (v : Value) : Prop := Hid (p.block < W.heap.size ∧ W.cell? p = some v)
theorem Cl.up {W W' : World} {p : Addr} {v : Value} (h : Cl W p v) (hb : Hid (Below W.heap.size W W')) : Cl W' p v :=
  ⟨Nat.lt_of_lt_of_le h.out.1 hb.out.size, (hb.out.cell h.out.1).trans h.out.2⟩
theorem Cl.al {W : World} {p : Addr} {v : Value} (h : Cl W p v) (o : Obj) : Cl (W.alloc o) p v := h.up ((Below.refl _ _).alloc (Nat.le_refl _) o)
theorem Cl.dr {W : World} {p : Addr} {v : Value} (h : Cl W p v) : Cl W.drew p v := h
theorem Cl.cell {W : World} {p : Addr} {v : Value} (h : Cl W p v) : W.cell? p = some v := h.out.2
theorem Cl.ltb {W : World} {g k : Nat} {v : Value} (h : Cl W ⟨g, k, none⟩ v) : g < W.heap.size := h.out.1
theorem Cl.far {W : World} {p : Addr} {v : Value} (h : Cl W p v) {q i : Nat} (hq : q ≠ p.block) (u : Value) : Cl (W.setCell ⟨q, i, none⟩ u) p v :=
  ⟨by have := h.out.1; simpa [World.setCell] using this, (World.cell?_setCell_far _ _ _ _ hq).trans h.out.2⟩
theorem Bel.putk {w W : World} (h : Bel w W) {p i : Nat} (hp : w.heap.size ≤ p) (x : Value) : Bel w (W.setCell ⟨p, i, none⟩ x) := Below.setCell h hp _
theorem sss_at {W : World} {g : Nat} {css : List (List ByteArray)} {k : Nat} {xs : List ByteArray} (h : Sss W (some ⟨g, 0, none⟩) css) (hk : css[k]? = some xs) : ∃ A c, Cl W ⟨g, k, none⟩ (.slice A xs.length c) ∧ Ss W A xs := by
  have hl : k < css.length := (List.getElem?_eq_some_iff.1 hk).1
  obtain ⟨ad2, A, c, e, hb, hc, hr, _⟩ := h.out.at_ hl
  injection e with e
  subst e
  rw [List.getElem?_eq_getElem hl] at hk
  injection hk with hk
  subst hk
  rw [show (⟨g, 0, none⟩ : Addr).add k = ⟨g, k, none⟩ by unfold Addr.add; split <;> simp_all] at hc
  exact ⟨A, c, ⟨hb, hc⟩, hr⟩
def SomeH (W : World) (e : Ending) (w' : World) : Prop := ∃ A B, e = .returned (.agg #[.slice A 3 3, .slice B 3 3]) ∧ Ss w' A someN ∧ Ss w' B someP ∧ Hid (Below W.heap.size W w')
theorem some_hid (w : World) : Calls Tryd.prog 9 #[] w (SomeH w) := (some_h w).mono fun _ _ ⟨A, B, h1, h2, h3, h4⟩ => ⟨A, B, h1, h2, h3, h4.hid⟩
def PResH (W : World) (p n : ByteArray) (k t : Int) (ok : Bool) (e : Ending) (w' : World) : Prop := e = .returned (.tuple #[.agg #[.string p, .string n, .int .i64 k], .int .i64 t, .bool ok]) ∧ Hid (Below W.heap.size W w')
def badl : List (List ByteArray) := [[], [⟨#[115, 113, 117, 97, 114, 101]⟩], [⟨#[112, 111, 119, 50]⟩, ⟨#[109, 101, 116, 101, 114]⟩], [⟨#[112, 111, 119, 48, 52]⟩, ⟨#[109, 101, 116, 101, 114]⟩], [⟨#[112, 111, 119, 49, 54]⟩, ⟨#[109, 101, 116, 101, 114]⟩], [⟨#[107, 105, 108, 111]⟩], [⟨#[115, 113, 117, 97, 114, 101]⟩, ⟨#[99, 117, 98, 105, 99]⟩, ⟨#[109, 101, 116, 101, 114]⟩], [⟨#[109, 101, 116, 101, 114, 115]⟩]]
def nine : List ByteArray := [⟨#[112, 101, 114]⟩, ⟨#[97, 110, 100]⟩, ⟨#[115, 113, 117, 97, 114, 101]⟩, ⟨#[99, 117, 98, 105, 99]⟩, ⟨#[49, 50]⟩, ⟨#[112, 111, 119, 55]⟩, ⟨#[97, 45, 98]⟩, ⟨#[65]⟩, ⟨#[]⟩]
theorem badl_no : ∀ xs ∈ badl, (∀ x ∈ xs, x.size ≤ 140737488355328) ∧ (parseA someN someP xs).ok = false := by decide +kernel
theorem bad_h {A B D : Option Addr} {j g : Nat} {xs : List ByteArray} {W : World} (hx : xs ∈ badl) (h : Ss W A someN) (h' : Ss W B someP) (h2 : Ss W D xs) (hj : j = xs.length) :
    Calls Tryd.prog 8 #[.agg #[.slice A 3 3, .slice B 3 3], .slice D j g] W (PResH W ⟨#[]⟩ ⟨#[]⟩ 0 0 false) := by
  have hno := parseA_no (badl_no xs hx).2
  have h9 := parse_some (k := 0) (t := 0) (g := g) h h' h2 hj (badl_no xs hx).1 ⟨congrArg PA.p hno, congrArg PA.n hno, congrArg PA.k hno, congrArg PA.t hno, congrArg PA.ok hno⟩
  exact h9.mono fun _ _ ⟨a, b⟩ => ⟨a, b.hid⟩
theorem nine_no : ∀ x ∈ nine, x.size ≤ 100 ∧ mayB x = false := by decide +kernel
theorem good_lit {A B : Option Addr} {n m c d : Nat} {xs ys : List ByteArray} {W : World} {b : Bool} (h : Ss W A xs) (h' : Ss W B ys) (hn : n = xs.length) (hm : m = ys.length) (hl : n ≤ 100 ∧ m ≤ 100) (hs : (∀ x ∈ xs, x.size ≤ 100) ∧ ∀ x ∈ ys, x.size ≤ 100) (hb : (goodL xs && goodL ys) = b) :
    Calls Tryd.prog 10 #[.agg #[.slice A n c, .slice B m d]] W (RetB W b) := by
  rw [← hb]
  exact good_any h hn (by omega) (fun x hx => Nat.le_trans (hs.1 x hx) (by decide)) h' hm (by omega) (fun x hx => Nat.le_trans (hs.2 x hx) (by decide))
theorem may_one {x : ByteArray} (h : mayB x = false) : goodL [x] = false := by unfold goodL; simp [h]
theorem lit_ssz {W : World} {q : Nat} (h : W.heap.size = q) (xs : List ByteArray) (t : TypeId) : Ss (W.alloc (.cells (xs.map Value.string).toArray t)) (some ⟨q, 0, none⟩) xs := h ▸ lit_ssk W xs t
theorem sss_eight {W : World} {g q0 q1 q2 q3 q4 q5 q6 : Nat} (h : At W g [.slice none 0 0, .slice (some ⟨q0, 0, none⟩) 1 1, .slice (some ⟨q1, 0, none⟩) 2 2, .slice (some ⟨q2, 0, none⟩) 2 2, .slice (some ⟨q3, 0, none⟩) 2 2, .slice (some ⟨q4, 0, none⟩) 1 1, .slice (some ⟨q5, 0, none⟩) 3 3, .slice (some ⟨q6, 0, none⟩) 1 1]) (h0 : Ss W (some ⟨q0, 0, none⟩) [⟨#[115, 113, 117, 97, 114, 101]⟩]) (h1 : Ss W (some ⟨q1, 0, none⟩) [⟨#[112, 111, 119, 50]⟩, ⟨#[109, 101, 116, 101, 114]⟩]) (h2 : Ss W (some ⟨q2, 0, none⟩) [⟨#[112, 111, 119, 48, 52]⟩, ⟨#[109, 101, 116, 101, 114]⟩]) (h3 : Ss W (some ⟨q3, 0, none⟩) [⟨#[112, 111, 119, 49, 54]⟩, ⟨#[109, 101, 116, 101, 114]⟩]) (h4 : Ss W (some ⟨q4, 0, none⟩) [⟨#[107, 105, 108, 111]⟩]) (h5 : Ss W (some ⟨q5, 0, none⟩) [⟨#[115, 113, 117, 97, 114, 101]⟩, ⟨#[99, 117, 98, 105, 99]⟩, ⟨#[109, 101, 116, 101, 114]⟩]) (h6 : Ss W (some ⟨q6, 0, none⟩) [⟨#[109, 101, 116, 101, 114, 115]⟩]) : Sss W (some ⟨g, 0, none⟩) badl := fun _ => by
  refine ⟨⟨g, 0, none⟩, fun j => if j = 0 then (none, 0) else (if j = 1 then (some ⟨q0, 0, none⟩, 1) else if j = 2 then (some ⟨q1, 0, none⟩, 2) else if j = 3 then (some ⟨q2, 0, none⟩, 2) else if j = 4 then (some ⟨q3, 0, none⟩, 2) else if j = 5 then (some ⟨q4, 0, none⟩, 1) else if j = 6 then (some ⟨q5, 0, none⟩, 3) else (some ⟨q6, 0, none⟩, 1)), rfl, h.lt, fun j cs hj => ?_⟩
  rw [show (⟨g, 0, none⟩ : Addr).add j = ⟨g, j, none⟩ by unfold Addr.add; split <;> simp_all]
  have hl : j < 8 := (List.getElem?_eq_some_iff.1 hj).1
  have e : j = 0 ∨ j = 1 ∨ j = 2 ∨ j = 3 ∨ j = 4 ∨ j = 5 ∨ j = 6 ∨ j = 7 := by omega
  rcases e with rfl | rfl | rfl | rfl | rfl | rfl | rfl | rfl
  · injection hj with hj; subst hj; exact ⟨h.ci rfl, RS.nil, fun _ => rfl⟩
  · injection hj with hj; subst hj; exact ⟨h.ci rfl, h0, fun h9 => by cases h9⟩
  · injection hj with hj; subst hj; exact ⟨h.ci rfl, h1, fun h9 => by cases h9⟩
  · injection hj with hj; subst hj; exact ⟨h.ci rfl, h2, fun h9 => by cases h9⟩
  · injection hj with hj; subst hj; exact ⟨h.ci rfl, h3, fun h9 => by cases h9⟩
  · injection hj with hj; subst hj; exact ⟨h.ci rfl, h4, fun h9 => by cases h9⟩
  · injection hj with hj; subst hj; exact ⟨h.ci rfl, h5, fun h9 => by cases h9⟩
  · injection hj with hj; subst hj; exact ⟨h.ci rfl, h6, fun h9 => by cases h9⟩
theorem less_zab : lessB ⟨#[122]⟩ ⟨#[97]⟩ 0 ⟨#[]⟩ ⟨#[98]⟩ 0 = true := by
  rw [lessB_iff]; exact .inl ((ltS_iff _ _).2 (by decide))
set_option maxHeartbeats 32000000 in
theorem aknown_w (w : World) : Calls Tryd.prog 3 #[] w (RetB w true) := by
  have CA := khide awake9_h
  have CS := khide some_hid
  have P1 : Hid (∀ {A B : Option Addr} {W : World}, Ss W A someN → Ss W B someP → Calls Tryd.prog 8 #[.agg #[.slice A 3 3, .slice B 3 3], .slice (some ⟨W.heap.size, 0, none⟩) 1 1] (W.alloc (.cells #[.string ⟨#[107, 105, 108, 111, 103, 114, 97, 109]⟩] 9)) (PResX (W.alloc (.cells #[.string ⟨#[107, 105, 108, 111, 103, 114, 97, 109]⟩] 9)) ⟨#[107, 105, 108, 111]⟩ ⟨#[103, 114, 97, 109]⟩ 1 1 true)) := fun h h' =>
    parse_some (xs := [⟨#[107, 105, 108, 111, 103, 114, 97, 109]⟩]) (k := 1) (t := 1) (h.al _) (h'.al _) (lit_ssk _ [⟨#[107, 105, 108, 111, 103, 114, 97, 109]⟩] _) rfl (by decide +kernel) (by decide +kernel)
  have P2 : Hid (∀ {A B : Option Addr} {W : World}, Ss W A someN → Ss W B someP → Calls Tryd.prog 8 #[.agg #[.slice A 3 3, .slice B 3 3], .slice (some ⟨W.heap.size, 0, none⟩) 1 1] (W.alloc (.cells #[.string ⟨#[112, 111, 119, 49, 53, 45, 109, 101, 116, 101, 114]⟩] 9)) (PResX (W.alloc (.cells #[.string ⟨#[112, 111, 119, 49, 53, 45, 109, 101, 116, 101, 114]⟩] 9)) ⟨#[]⟩ ⟨#[]⟩ 0 0 false)) := fun h h' =>
    parse_some (xs := [⟨#[112, 111, 119, 49, 53, 45, 109, 101, 116, 101, 114]⟩]) (k := 0) (t := 0) (h.al _) (h'.al _) (lit_ssk _ [⟨#[112, 111, 119, 49, 53, 45, 109, 101, 116, 101, 114]⟩] _) rfl (by decide +kernel) (by decide +kernel)
  have P3 : Hid (∀ {A B : Option Addr} {W : World}, Ss W A someN → Ss W B someP → Calls Tryd.prog 8 #[.agg #[.slice A 3 3, .slice B 3 3], .slice (some ⟨W.heap.size, 0, none⟩) 2 2] (W.alloc (.cells #[.string ⟨#[112, 111, 119, 49, 53]⟩, .string ⟨#[109, 101, 116, 101, 114]⟩] 9)) (PResX (W.alloc (.cells #[.string ⟨#[112, 111, 119, 49, 53]⟩, .string ⟨#[109, 101, 116, 101, 114]⟩] 9)) ⟨#[]⟩ ⟨#[109, 101, 116, 101, 114]⟩ 15 2 true)) := fun h h' =>
    parse_some (xs := [⟨#[112, 111, 119, 49, 53]⟩, ⟨#[109, 101, 116, 101, 114]⟩]) (k := 15) (t := 2) (h.al _) (h'.al _) (lit_ssk _ [⟨#[112, 111, 119, 49, 53]⟩, ⟨#[109, 101, 116, 101, 114]⟩] _) rfl (by decide +kernel) (by decide +kernel)
  have HB := Bel.refl w
  go_enter Tryd.func3, Tryd.ntmps3
  go_upto_region 6 with (first | (go_at_call 7; (with_reducible refine (CA.out _).mono ?_); rintro e w1 ⟨rfl, hb⟩; have hbk := hb.hid; (with_reducible (replace HB := HB.up hbk)); clear hb) | (go_at_call 9; (with_reducible refine (CS.out _).mono ?_); rintro e w2 ⟨A, B, rfl, hN, hP, hbk⟩; (with_reducible (replace HB := HB.up hbk))) | (go_at_call 8; (with_reducible refine (P1.out hN hP).mono ?_); rintro e w3 ⟨rfl, hb⟩; have hbk := hb.hid; (with_reducible (replace HB := (HB.al _).up hbk)); clear hb hN hP) | (go_at_call 9; (with_reducible refine (CS.out _).mono ?_); rintro e w4 ⟨A, B, rfl, hN, hP, hbk⟩; (with_reducible (have HA : At w4 w3.heap.size [.string ⟨#[107, 105, 108, 111]⟩, .string ⟨#[103, 114, 97, 109]⟩, .int .i64 1] := At.up (at_new0 _ _ _) hbk; replace HB := (HB.al _).up hbk))) | (go_at_call 8; (with_reducible refine (P2.out hN hP).mono ?_); rintro e w5 ⟨rfl, hb⟩; have hbk := hb.hid; (with_reducible (replace HB := (HB.al _).up hbk; replace HA := (HA.al _).up hbk)); clear hb hN hP) | (go_at_call 9; (with_reducible refine (CS.out _).mono ?_); rintro e w6 ⟨A, B, rfl, hN, hP, hbk⟩; (with_reducible (have HC : At w6 w5.heap.size [.string ⟨#[]⟩, .string ⟨#[]⟩, .int .i64 0] := At.up (at_new0 _ _ _) hbk; replace HB := (HB.al _).up hbk; replace HA := (HA.al _).up hbk))) | (go_at_call 8; (with_reducible refine (P3.out hN hP).mono ?_); rintro e w7 ⟨rfl, hb⟩; have hbk := hb.hid; (with_reducible (replace HB := (HB.al _).up hbk; replace HA := (HA.al _).up hbk; replace HC := (HC.al _).up hbk)); clear hb hN hP) | fail)
  refine kwp_named ?_
  intro W8 hW8
  have HD : At W8 w7.heap.size [.string ⟨#[]⟩, .string ⟨#[109, 101, 116, 101, 114]⟩, .int .i64 15] := by rw [hW8]; exact at_new0 _ _ _
  replace HB : Bel w W8 := by rw [hW8]; exact HB.al _
  replace HA : At W8 w3.heap.size [.string ⟨#[107, 105, 108, 111]⟩, .string ⟨#[103, 114, 97, 109]⟩, .int .i64 1] := by rw [hW8]; exact HA.al _
  replace HC : At W8 w5.heap.size [.string ⟨#[]⟩, .string ⟨#[]⟩, .int .i64 0] := by rw [hW8]; exact HC.al _
  obtain ⟨qa, hqa⟩ : ∃ q, q = w3.heap.size := ⟨_, rfl⟩
  obtain ⟨qb, hqb⟩ : ∃ q, q = w5.heap.size := ⟨_, rfl⟩
  obtain ⟨qc, hqc⟩ : ∃ q, q = w7.heap.size := ⟨_, rfl⟩
  rw [← hqa] at HA
  rw [← hqb] at HC
  rw [← hqc] at HD
  rw [← hqa, ← hqb, ← hqc]
  clear hW8 hqa hqb hqc P1 P2 P3 CA
  go_upto_region 7 with fail
  refine kwp_named ?_
  intro W9 hW9
  have S0 : Ss W9 (some ⟨W8.heap.size, 0, none⟩) [⟨#[115, 113, 117, 97, 114, 101]⟩] := by rw [hW9]; exact ((((((((lit_ssz (by simp) [⟨#[115, 113, 117, 97, 114, 101]⟩] _).al _).al _).al _).al _).al _).al _).al _)
  have S1 : Ss W9 (some ⟨W8.heap.size + 1, 0, none⟩) [⟨#[112, 111, 119, 50]⟩, ⟨#[109, 101, 116, 101, 114]⟩] := by rw [hW9]; exact (((((((lit_ssz (by simp) [⟨#[112, 111, 119, 50]⟩, ⟨#[109, 101, 116, 101, 114]⟩] _).al _).al _).al _).al _).al _).al _)
  have S2 : Ss W9 (some ⟨W8.heap.size + 1 + 1, 0, none⟩) [⟨#[112, 111, 119, 48, 52]⟩, ⟨#[109, 101, 116, 101, 114]⟩] := by rw [hW9]; exact ((((((lit_ssz (by simp) [⟨#[112, 111, 119, 48, 52]⟩, ⟨#[109, 101, 116, 101, 114]⟩] _).al _).al _).al _).al _).al _)
  have S3 : Ss W9 (some ⟨W8.heap.size + 1 + 1 + 1, 0, none⟩) [⟨#[112, 111, 119, 49, 54]⟩, ⟨#[109, 101, 116, 101, 114]⟩] := by rw [hW9]; exact (((((lit_ssz (by simp) [⟨#[112, 111, 119, 49, 54]⟩, ⟨#[109, 101, 116, 101, 114]⟩] _).al _).al _).al _).al _)
  have S4 : Ss W9 (some ⟨W8.heap.size + 1 + 1 + 1 + 1, 0, none⟩) [⟨#[107, 105, 108, 111]⟩] := by rw [hW9]; exact ((((lit_ssz (by simp) [⟨#[107, 105, 108, 111]⟩] _).al _).al _).al _)
  have S5 : Ss W9 (some ⟨W8.heap.size + 1 + 1 + 1 + 1 + 1, 0, none⟩) [⟨#[115, 113, 117, 97, 114, 101]⟩, ⟨#[99, 117, 98, 105, 99]⟩, ⟨#[109, 101, 116, 101, 114]⟩] := by rw [hW9]; exact (((lit_ssz (by simp) [⟨#[115, 113, 117, 97, 114, 101]⟩, ⟨#[99, 117, 98, 105, 99]⟩, ⟨#[109, 101, 116, 101, 114]⟩] _).al _).al _)
  have S6 : Ss W9 (some ⟨W8.heap.size + 1 + 1 + 1 + 1 + 1 + 1, 0, none⟩) [⟨#[109, 101, 116, 101, 114, 115]⟩] := by rw [hW9]; exact ((lit_ssz (by simp) [⟨#[109, 101, 116, 101, 114, 115]⟩] _).al _)
  have HO : At W9 (W8.heap.size + 1 + 1 + 1 + 1 + 1 + 1 + 1) [.slice none 0 0, .slice (some ⟨W8.heap.size, 0, none⟩) 1 1, .slice (some ⟨W8.heap.size + 1, 0, none⟩) 2 2, .slice (some ⟨W8.heap.size + 1 + 1, 0, none⟩) 2 2, .slice (some ⟨W8.heap.size + 1 + 1 + 1, 0, none⟩) 2 2, .slice (some ⟨W8.heap.size + 1 + 1 + 1 + 1, 0, none⟩) 1 1, .slice (some ⟨W8.heap.size + 1 + 1 + 1 + 1 + 1, 0, none⟩) 3 3, .slice (some ⟨W8.heap.size + 1 + 1 + 1 + 1 + 1 + 1, 0, none⟩) 1 1] := by rw [hW9]; exact at_size (at_new0 _ _ _) (by simp)
  replace HB : Bel w W9 := by rw [hW9]; exact ((((((((HB.al _).al _).al _).al _).al _).al _).al _).al _)
  replace HA : At W9 qa [.string ⟨#[107, 105, 108, 111]⟩, .string ⟨#[103, 114, 97, 109]⟩, .int .i64 1] := by rw [hW9]; exact ((((((((HA.al _).al _).al _).al _).al _).al _).al _).al _)
  replace HC : At W9 qb [.string ⟨#[]⟩, .string ⟨#[]⟩, .int .i64 0] := by rw [hW9]; exact ((((((((HC.al _).al _).al _).al _).al _).al _).al _).al _)
  replace HD : At W9 qc [.string ⟨#[]⟩, .string ⟨#[109, 101, 116, 101, 114]⟩, .int .i64 15] := by rw [hW9]; exact ((((((((HD.al _).al _).al _).al _).al _).al _).al _).al _)
  have HS : Sss W9 (some ⟨W8.heap.size + 1 + 1 + 1 + 1 + 1 + 1 + 1, 0, none⟩) badl := sss_eight HO S0 S1 S2 S3 S4 S5 S6
  obtain ⟨g, hg⟩ : ∃ g, g = W8.heap.size + 1 + 1 + 1 + 1 + 1 + 1 + 1 := ⟨_, rfl⟩
  rw [← hg] at HS
  rw [← hg]
  clear hW9 hg HO S0 S1 S2 S3 S4 S5 S6
  go_upto_region 8 with fail
  go_loopw [11] (fun iv wr => ∃ k : Nat, k ≤ 8 ∧ iv = .int .i64 (k : Int) ∧ Hid (Bel w wr) ∧ Hid (At wr qa [.string ⟨#[107, 105, 108, 111]⟩, .string ⟨#[103, 114, 97, 109]⟩, .int .i64 1]) ∧ Hid (At wr qb [.string ⟨#[]⟩, .string ⟨#[]⟩, .int .i64 0]) ∧ Hid (At wr qc [.string ⟨#[]⟩, .string ⟨#[109, 101, 116, 101, 114]⟩, .int .i64 15]) ∧ Hid (Sss wr (some ⟨g, 0, none⟩) badl)) (fun iv _ => 8 - (intOf iv).toNat)
  case atStart => exact ⟨0, Nat.zero_le _, rfl, HB, HA, HC, HD, HS⟩
  case round =>
    clear HB HA HC HD HS
    obtain ⟨k, hk, rfl, HB, HA, HC, HD, HS⟩ := hrel
    by_cases hlt : k < 8
    · obtain ⟨xs, hxs⟩ : ∃ xs, badl[k]? = some xs := ⟨badl[k]'(by simpa [badl] using hlt), List.getElem?_eq_getElem _⟩
      have HM : Hid (xs ∈ badl) := List.mem_of_getElem? hxs
      obtain ⟨D, c, HCL, HL⟩ := sss_at HS.out hxs
      obtain ⟨m, hm⟩ : ∃ m, m = xs.length := ⟨_, rfl⟩
      have HMM := khide hm
      rw [← hm] at HCL
      have k0 : (0 : Int) ≤ (k : Int) := by omega
      have k8 : (k : Int) < 8 := by omega
      have HR := Bel.refl wr
      have CB : Hid (∀ {A B : Option Addr} {W : World}, Ss W A someN → Ss W B someP → Ss W D xs → Calls Tryd.prog 8 #[.agg #[.slice A 3 3, .slice B 3 3], .slice D m c] W (PResH W ⟨#[]⟩ ⟨#[]⟩ 0 0 false)) := fun h1 h2 h3 => bad_h HM.out h1 h2 h3 HMM.out
      clear hm hxs HM HMM
      have lg0 := HCL.ltb
      have sz0 : wr.heap.size ≤ wr.drew.heap.size := Nat.le_refl _
      go_upto_region 10 with fail
      go_cut [13, 14] from 54 to 63 (fun a b w' => a = .int .i64 0 ∧ b = .bool false ∧ Bel wr w')
      case first =>
        go_region_held3 (fun w' => w'.cell? ⟨g, k, none⟩ = some (.slice D m c))
          ((refine (?_ : Cl _ ⟨g, k, none⟩ (.slice D m c)).cell) <;> (repeat (first | with_reducible exact HCL | (with_reducible refine Cl.dr ?_) | (with_reducible refine Cl.al ?_ _) | (with_reducible refine Cl.far ?_ (by simp; omega) _))))
          (first | (go_at_call 9; (with_reducible refine (CS.out _).mono ?_); rintro e w2 ⟨A, B, rfl, hN, hP, hbk⟩; (with_reducible (replace HR := HR.dr.up hbk; replace HCL := HCL.dr.up hbk; replace HL := HL.dr.up hbk)); have lg1 := HCL.ltb; have sz1 := Below.size HR; (try have lx1 := HX0.lt)) | (go_at_call 9; (with_reducible refine (CS.out _).mono ?_); rintro e w2 ⟨A, B, rfl, hN, hP, hbk⟩; (with_reducible (have HX0 := At.up (at_new0 _ [.string ⟨#[]⟩, .string ⟨#[]⟩, .int .i64 0] _).dr hbk; replace HR := (HR.al _).dr.up hbk; replace HCL := (HCL.al _).dr.up hbk; replace HL := (HL.al _).dr.up hbk)); have lg1 := HCL.ltb; have sz1 := Below.size HR; (try have lx1 := HX0.lt)) | (go_at_call 8; (with_reducible refine (CB.out hN hP HL).mono ?_); rintro e w3 ⟨rfl, hbk⟩; (with_reducible (replace HR := HR.up hbk; replace HCL := HCL.up hbk)); (try (with_reducible replace HX0 := HX0.up hbk)); (try have hx_0 := HX0.c0); (try have hx_1 := HX0.c1); (try have hx_2 := HX0.c2); (try have hxf_0 := HX0.f0); (try have hxf_1 := HX0.f1); (try have hxf_2 := HX0.f2); (try have hx_l := HX0.lt); have lg2 := HCL.ltb; have sz2 := Below.size HR) | (go_at_call 8; (with_reducible refine (CB.out (hN.al _) (hP.al _) (HL.al _)).mono ?_); rintro e w3 ⟨rfl, hbk⟩; (with_reducible (have HX0 := At.up (at_new0 _ [.string ⟨#[]⟩, .string ⟨#[]⟩, .int .i64 0] _) hbk; replace HR := (HR.al _).up hbk; replace HCL := (HCL.al _).up hbk)); (try (with_reducible replace HX0 := (HX0.al _).up hbk)); (try have hx_0 := HX0.c0); (try have hx_1 := HX0.c1); (try have hx_2 := HX0.c2); (try have hxf_0 := HX0.f0); (try have hxf_1 := HX0.f1); (try have hxf_2 := HX0.f2); (try have hx_l := HX0.lt); have lg2 := HCL.ltb; have sz2 := Below.size HR) | fail)
        all_goals go_wp2_with fail
        all_goals go_meet
        all_goals case rel => refine ⟨rfl, rfl, ?_⟩ <;> (repeat (first | with_reducible exact HR | (with_reducible refine Bel.dr ?_) | (with_reducible refine Bel.al ?_ _) | (with_reducible refine Bel.putk ?_ (by omega) _)))
      case rest =>
        obtain ⟨rfl, rfl, hR⟩ := hcut
        have hbk := hR.hid
        replace HB : Hid (Bel w wc) := HB.out.up hbk
        replace HA : Hid (At wc qa [.string ⟨#[107, 105, 108, 111]⟩, .string ⟨#[103, 114, 97, 109]⟩, .int .i64 1]) := HA.out.up hbk
        replace HC : Hid (At wc qb [.string ⟨#[]⟩, .string ⟨#[]⟩, .int .i64 0]) := HC.out.up hbk
        replace HD : Hid (At wc qc [.string ⟨#[]⟩, .string ⟨#[109, 101, 116, 101, 114]⟩, .int .i64 15]) := HD.out.up hbk
        replace HS : Hid (Sss wc (some ⟨g, 0, none⟩) badl) := HS.out.up hbk
        clear hR hbk HR HCL HL CB lg0 sz0
        go_wp2
        go_roundw
        case rel => exact ⟨k + 1, by omega, by go_num, HB, HA, HC, HD, HS⟩
        case measure => simp [intOf]; omega
    · obtain rfl : k = 8 := by omega
      rw [show ((8 : Nat) : Int) = 8 from rfl]
      clear HS
      go_upto_region 14 with fail
      refine kwp_named ?_
      intro Wn hWn
      have HN : Hid (Ss Wn (some ⟨wr.heap.size, 0, none⟩) nine) := by rw [hWn]; exact lit_ssk _ nine _
      replace HB : Hid (Bel w Wn) := by rw [hWn]; exact HB.out.al _
      replace HA : Hid (At Wn qa [.string ⟨#[107, 105, 108, 111]⟩, .string ⟨#[103, 114, 97, 109]⟩, .int .i64 1]) := by rw [hWn]; exact HA.out.al _
      replace HC : Hid (At Wn qb [.string ⟨#[]⟩, .string ⟨#[]⟩, .int .i64 0]) := by rw [hWn]; exact HC.out.al _
      replace HD : Hid (At Wn qc [.string ⟨#[]⟩, .string ⟨#[109, 101, 116, 101, 114]⟩, .int .i64 15]) := by rw [hWn]; exact HD.out.al _
      obtain ⟨g2, hg2⟩ : ∃ g, g = wr.heap.size := ⟨_, rfl⟩
      rw [← hg2] at HN
      rw [← hg2]
      clear hWn hg2
      go_upto_region 15 with fail
      go_loopw [16] (fun iv wr => ∃ k : Nat, k ≤ 9 ∧ iv = .int .i64 (k : Int) ∧ Hid (Bel w wr) ∧ Hid (At wr qa [.string ⟨#[107, 105, 108, 111]⟩, .string ⟨#[103, 114, 97, 109]⟩, .int .i64 1]) ∧ Hid (At wr qb [.string ⟨#[]⟩, .string ⟨#[]⟩, .int .i64 0]) ∧ Hid (At wr qc [.string ⟨#[]⟩, .string ⟨#[109, 101, 116, 101, 114]⟩, .int .i64 15]) ∧ Hid (Ss wr (some ⟨g2, 0, none⟩) nine)) (fun iv _ => 9 - (intOf iv).toNat)
      case atStart => exact ⟨0, Nat.zero_le _, rfl, HB, HA, HC, HD, HN⟩
      case round =>
        clear HB HA HC HD HN
        obtain ⟨k, hk, rfl, HB, HA, HC, HD, HN⟩ := hrel
        by_cases hlt : k < 9
        · have hx : k < nine.length := by simpa [nine] using hlt
          obtain ⟨ad, e9, had, hcell⟩ := HN.out.out.at_ hx
          injection e9 with e9
          subst e9
          rw [show (⟨g2, 0, none⟩ : Addr).add k = ⟨g2, k, none⟩ by unfold Addr.add; split <;> simp_all] at hcell
          obtain ⟨x, hxe⟩ : ∃ x, x = nine[k] := ⟨_, rfl⟩
          rw [← hxe] at hcell
          have hno := nine_no x (by rw [hxe]; exact List.getElem_mem hx)
          have HCL : Cl _ ⟨g2, k, none⟩ (.string x) := ⟨had, hcell⟩
          have G1 : Hid (∀ W : World, Calls Tryd.prog 10 #[.agg #[.slice (some ⟨W.heap.size, 0, none⟩) 1 1, .slice none 0 0]] (W.alloc (.cells #[.string x] 9)) (RetB (W.alloc (.cells #[.string x] 9)) false)) := fun W =>
            good_lit (lit_ssk W [x] _) RS.nil rfl rfl (by decide) ⟨by simpa using hno.1, by simp⟩ (by rw [may_one hno.2]; rfl)
          have G2 : Hid (∀ W : World, Calls Tryd.prog 10 #[.agg #[.slice none 0 0, .slice (some ⟨W.heap.size, 0, none⟩) 1 1]] (W.alloc (.cells #[.string x] 9)) (RetB (W.alloc (.cells #[.string x] 9)) false)) := fun W =>
            good_lit RS.nil (lit_ssk W [x] _) rfl rfl (by decide) ⟨by simp, by simpa using hno.1⟩ (by rw [may_one hno.2]; rfl)
          have k0 : (0 : Int) ≤ (k : Int) := by omega
          have k9 : (k : Int) < 9 := by omega
          clear hno hxe hx
          replace HB := HB.out; replace HA := HA.out; replace HC := HC.out; replace HD := HD.out; replace HN := HN.out
          go_wp2_with (first
            | (go_at_call 10; (with_reducible refine (G1.out _).mono ?_); rintro e y1 ⟨rfl, hb⟩; have hbk := hb.hid; (with_reducible (replace HB := (HB.al _).up hbk; replace HA := (HA.al _).up hbk; replace HC := (HC.al _).up hbk; replace HD := (HD.al _).up hbk; replace HN := (HN.al _).up hbk; replace HCL := (HCL.al _).up hbk)); clear hcell had hb hbk; have hcell := HCL.cell; have had := HCL.ltb)
            | (go_at_call 10; (with_reducible refine (G2.out _).mono ?_); rintro e y2 ⟨rfl, hb⟩; have hbk := hb.hid; (with_reducible (replace HB := (HB.al _).up hbk; replace HA := (HA.al _).up hbk; replace HC := (HC.al _).up hbk; replace HD := (HD.al _).up hbk; replace HN := (HN.al _).up hbk)); clear hb hbk hcell had)
            | fail)
          go_roundw
          case rel => exact ⟨k + 1, by omega, by go_num, HB, HA, HC, HD, HN⟩
          case measure => simp [intOf]; omega
        · obtain rfl : k = 9 := by omega
          clear HN
          replace HB := HB.out; replace HA := HA.out; replace HC := HC.out; replace HD := HD.out
          have q1 : ∀ W : World, (binOp .eql 24 (.agg #[.string ⟨#[107, 105, 108, 111]⟩, .string ⟨#[103, 114, 97, 109]⟩, .int .i64 1]) (.agg #[.string ⟨#[107, 105, 108, 111]⟩, .string ⟨#[103, 114, 97, 109]⟩, .int .i64 1])).run Tryd.prog W = .ok (.bool true) W := fun W => by
            rw [aeq W]; rw [show eqA ⟨#[107, 105, 108, 111]⟩ ⟨#[103, 114, 97, 109]⟩ 1 ⟨#[107, 105, 108, 111]⟩ ⟨#[103, 114, 97, 109]⟩ 1 = true by decide +kernel]
          have q2 : ∀ W : World, (binOp .eql 24 (.agg #[.string ⟨#[]⟩, .string ⟨#[]⟩, .int .i64 0]) (.agg #[.string ⟨#[]⟩, .string ⟨#[]⟩, .int .i64 0])).run Tryd.prog W = .ok (.bool true) W := fun W => by
            rw [aeq W]; rw [show eqA ⟨#[]⟩ ⟨#[]⟩ 0 ⟨#[]⟩ ⟨#[]⟩ 0 = true by decide +kernel]
          have G3 : Hid (∀ W : World, Calls Tryd.prog 10 #[.agg #[.slice (some ⟨W.heap.size, 0, none⟩) 2 2, .slice none 0 0]] (W.alloc (.cells #[.string ⟨#[97]⟩, .string ⟨#[97]⟩] 9)) (RetB (W.alloc (.cells #[.string ⟨#[97]⟩, .string ⟨#[97]⟩] 9)) false)) := fun W => good_lit (lit_ssk W [⟨#[97]⟩, ⟨#[97]⟩] _) RS.nil rfl rfl (by decide) (by decide +kernel) (by decide +kernel)
          have G4 : Hid (∀ W : World, Calls Tryd.prog 10 #[.agg #[.slice (some ⟨W.heap.size, 0, none⟩) 1 1, .slice (some ⟨W.heap.size + 1, 0, none⟩) 1 1]] ((W.alloc (.cells #[.string ⟨#[97]⟩] 9)).alloc (.cells #[.string ⟨#[97]⟩] 9)) (RetB ((W.alloc (.cells #[.string ⟨#[97]⟩] 9)).alloc (.cells #[.string ⟨#[97]⟩] 9)) true)) := fun W => good_lit ((lit_ssk W [⟨#[97]⟩] _).al _) (lit_ssz (by simp) [⟨#[97]⟩] _) rfl rfl (by decide) (by decide +kernel) (by decide +kernel)
          have G5 : Hid (∀ W : World, Calls Tryd.prog 10 #[.agg #[.slice (some ⟨W.heap.size, 0, none⟩) 1 1, .slice none 0 0]] (W.alloc (.cells #[.string ⟨#[112, 111, 119]⟩] 9)) (RetB (W.alloc (.cells #[.string ⟨#[112, 111, 119]⟩] 9)) true)) := fun W => good_lit (lit_ssk W [⟨#[112, 111, 119]⟩] _) RS.nil rfl rfl (by decide) (by decide +kernel) (by decide +kernel)
          have H1 : Hid (∀ W : World, Calls Tryd.prog 11 #[.agg #[.string ⟨#[]⟩, .string ⟨#[97]⟩, .int .i64 0]] W (StrR W ⟨#[]⟩)) := fun W => show_lit (by decide +kernel) (by decide +kernel) W
          have H2 : Hid (∀ W : World, Calls Tryd.prog 11 #[.agg #[.string ⟨#[]⟩, .string ⟨#[97]⟩, .int .i64 16]] W (StrR W ⟨#[]⟩)) := fun W => show_lit (by decide +kernel) (by decide +kernel) W
          have H3 : Hid (∀ W : World, Calls Tryd.prog 11 #[.agg #[.string ⟨#[]⟩, .string ⟨#[97]⟩, .int .i64 3]] W (StrR W ⟨#[99, 117, 98, 105, 99, 45, 97]⟩)) := fun W => show_lit (by decide +kernel) (by decide +kernel) W
          have H4 : Hid (∀ W : World, Calls Tryd.prog 12 #[.agg #[.string ⟨#[122]⟩, .string ⟨#[97]⟩, .int .i64 0], .agg #[.string ⟨#[]⟩, .string ⟨#[98]⟩, .int .i64 0]] W (RetB W true)) := fun W => by
            have h9 := less_any ⟨#[122]⟩ ⟨#[97]⟩ 0 ⟨#[]⟩ ⟨#[98]⟩ 0 W
            rwa [less_zab] at h9
          have ha_0 := HA.c0; have ha_1 := HA.c1; have ha_2 := HA.c2; have ha_l := HA.lt
          have hc_0 := HC.c0; have hc_1 := HC.c1; have hc_2 := HC.c2; have hc_l := HC.lt
          have hd_0 := HD.c0; have hd_1 := HD.c1; have hd_2 := HD.c2; have hd_l := HD.lt
          go_wp2_with (first
            | (go_at_call 10; (with_reducible refine (G3.out _).mono ?_); rintro e z1 ⟨rfl, hb⟩; (replace HB := (HB.al _).up hb.hid); clear hb)
            | (go_at_call 10; (with_reducible refine (G4.out _).mono ?_); rintro e z2 ⟨rfl, hb⟩; (replace HB := ((HB.al _).al _).up hb.hid); clear hb)
            | (go_at_call 10; (with_reducible refine (G5.out _).mono ?_); rintro e z3 ⟨rfl, hb⟩; (replace HB := (HB.al _).up hb.hid); clear hb)
            | (go_at_call 11; (with_reducible refine (H1.out _).mono ?_); rintro e z4 ⟨rfl, hb⟩; (replace HB := HB.up hb); clear hb)
            | (go_at_call 11; (with_reducible refine (H2.out _).mono ?_); rintro e z5 ⟨rfl, hb⟩; (replace HB := HB.up hb); clear hb)
            | (go_at_call 11; (with_reducible refine (H3.out _).mono ?_); rintro e z6 ⟨rfl, hb⟩; (replace HB := HB.up hb); clear hb)
            | (go_at_call 12; (with_reducible refine (H4.out _).mono ?_); rintro e z7 ⟨rfl, hb⟩; (replace HB := HB.up hb.hid); clear hb)
            | fail)
          go_ret
          exact ⟨rfl, HB⟩
theorem aknown_all (w : World) : Calls Tryd.prog 3 #[] w (fun e w' => e = .returned (.bool true) ∧ Below w.heap.size w w') := aknown_w w
end Go.Proofs.YtkjcnpckajpogaaDoor
