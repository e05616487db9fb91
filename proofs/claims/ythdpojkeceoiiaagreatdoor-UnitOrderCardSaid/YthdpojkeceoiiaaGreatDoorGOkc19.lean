/- Several texts in one, each with its own sentence and conditions. -/
import Derived.Test.YthdpojkeceoiiaaGreatDoorGOkc18
import Derived.Test.YthdpojkeceoiiaaGreatDoorGOkc0
import Derived.Test.YthdpojkeceoiiaaGreatDoorGOkc1
import Derived.Deep.OwnRows
section
/- Slices of parts that are read; the document's own ShowUnit. Conditions: parts that fit, at most 1000. -/
open Go.RowKit
set_option maxRecDepth 100000
namespace Go.Proofs.YthdpojkeceoiiaaGreatDoor
/-- A slice at A that reads as parts, below block B. -/
def RP (w : World) (B : Nat) (A : Option Addr) (ps : List PL) : Prop :=
  0 < ps.length → ∃ (ad : Addr) (us vs : Nat → Option Addr × Nat), A = some ad ∧ ad.block < B ∧ ∀ j p, ps[j]? = some p →
    w.cell? (ad.add (j * 3)) = some (.slice (us j).1 p.1.length (us j).2) ∧ w.cell? (ad.add (j * 3 + 1)) = some (.slice (vs j).1 p.2.1.length (vs j).2) ∧ w.cell? (ad.add (j * 3 + 2)) = some (.string p.2.2) ∧
    RC w B (us j).1 (cellsA p.1) ∧ RC w B (vs j).1 (cellsA p.2.1)
/-- In world W the slice at A reads as these parts. -/
def Ps (W : World) (A : Option Addr) (ps : List PL) : Prop := Hid (RP W W.heap.size A ps)
section
variable {w w' W W' : World} {B B' : Nat} {A : Option Addr} {ps : List PL}
theorem RP.keep (h : RP w B A ps) (hk : ∀ p : Addr, p.block < B → w'.cell? p = w.cell? p) : RP w' B A ps := fun hn => by
  obtain ⟨ad, us, vs, e, hb, hc⟩ := h hn
  refine ⟨ad, us, vs, e, hb, fun j p hj => ?_⟩
  obtain ⟨h1, h2, h3, h4, h5⟩ := hc j p hj
  exact ⟨(hk _ (by rw [yblock_add]; exact hb)).trans h1, (hk _ (by rw [yblock_add]; exact hb)).trans h2, (hk _ (by rw [yblock_add]; exact hb)).trans h3, h4.keep hk, h5.keep hk⟩
theorem RP.more (h : RP w B A ps) (hB : B ≤ B') : RP w B' A ps := fun hn => by
  obtain ⟨ad, us, vs, e, hb, hc⟩ := h hn
  refine ⟨ad, us, vs, e, by omega, fun j p hj => ?_⟩
  obtain ⟨h1, h2, h3, h4, h5⟩ := hc j p hj
  exact ⟨h1, h2, h3, h4.more hB, h5.more hB⟩
theorem RP.below (h : RP w B A ps) (hb : Below B w w') : RP w' B A ps := h.keep fun _ hp => hb.cell hp
theorem Ps.up (h : Ps W A ps) (hb : Hid (Below W.heap.size W W')) : Ps W' A ps := (h.out.below hb.out).more hb.out.size
theorem addr_zero (ad : Addr) : ad.add 0 = ad := by unfold Addr.add; simp
theorem add_next (ad : Addr) (q i : Nat) : (⟨(ad.add q).block, (ad.add q).off + (i + 1), none⟩ : Addr) = ad.add (q + (i + 1)) := by
  unfold Addr.add
  split <;> split <;> simp_all <;> omega
theorem Ps.at_ {k : Nat} {p : PL} (h : Ps W A ps) (hk : ps[k]? = some p) : ∃ (ad : Addr) (A1 A2 : Option Addr) (c1 c2 : Nat), A = some ad ∧ ad.block < W.heap.size ∧
    W.cell? (ad.add (k * 3)) = some (.slice A1 p.1.length c1) ∧ W.cell? ⟨(ad.add (k * 3)).block, (ad.add (k * 3)).off + 1, none⟩ = some (.slice A2 p.2.1.length c2) ∧ W.cell? ⟨(ad.add (k * 3)).block, (ad.add (k * 3)).off + 2, none⟩ = some (.string p.2.2) ∧
    Cs W A1 (cellsA p.1) ∧ Cs W A2 (cellsA p.2.1) := by
  have hl : k < ps.length := (List.getElem?_eq_some_iff.1 hk).1
  obtain ⟨ad, us, vs, e, hb, hc⟩ := h.out (by omega)
  obtain ⟨h1, h2, h3, h4, h5⟩ := hc k p hk
  refine ⟨ad, (us k).1, (vs k).1, (us k).2, (vs k).2, e, hb, h1, ?_, ?_, h4, h5⟩
  · rw [add_next ad (k * 3) 0]; exact h2
  · rw [add_next ad (k * 3) 1]; exact h3
end
def FitP (p : PL) : Prop := FitL p.1 ∧ FitL p.2.1 ∧ (glue 45 ((partW p).map (·.data.toList))).length ≤ 140737488355328
theorem partS_size {p : PL} (h : FitP p) : (partS p).size ≤ 140737488355328 := by
  have := h.2.2
  unfold partS joinS
  rw [Lib.size_eq] at *
  simpa using this
/-- Parts, one behind another. -/
def unitN (ps : List PL) : Nat → ByteArray
  | 0 => ⟨#[]⟩
  | k + 1 => (if 0 < k then unitN ps k ++ ⟨#[45, 97, 110, 100, 45]⟩ else unitN ps k) ++ (match ps[k]? with | none => ⟨#[]⟩ | some p => partS p)
def unitS (ps : List PL) : ByteArray := unitN ps ps.length
theorem unitN_size {ps : List PL} (h : ∀ p ∈ ps, FitP p) : ∀ k, (unitN ps k).size ≤ k * 140737488355333
  | 0 => Nat.zero_le _
  | k + 1 => by
    have ih := unitN_size h k
    have h1 : (match ps[k]? with | none => (⟨#[]⟩ : ByteArray) | some p => partS p).size ≤ 140737488355328 := by
      cases e : ps[k]? with
      | none => exact Nat.zero_le _
      | some p => exact partS_size (h p (List.mem_of_getElem? e))
    rw [unitN, ByteArray.size_append]
    by_cases h0 : 0 < k
    · rw [if_pos h0, ByteArray.size_append]
      have h2 : (⟨#[45, 97, 110, 100, 45]⟩ : ByteArray).size = 5 := rfl
      omega
    · rw [if_neg h0]; omega
set_option maxHeartbeats 4000000 in
theorem runit_any {A : Option Addr} {n c : Nat} {ps : List PL} {w : World} (h : Ps w A ps) (hn : n = ps.length) (hl : n ≤ 1000) (hf : ∀ p ∈ ps, FitP p) : Calls Tryz.prog 20 #[.slice A n c] w (StrR w (unitS ps)) := by
  have HN := khide hn
  have HF := khide hf
  clear hn hf
  go_enter Tryz.func20, Tryz.ntmps20
  go_wp2
  go_loopw [3, 4] (fun sv iv wr => ∃ (k : Nat) (s : ByteArray), k ≤ n ∧ iv = .int .i64 (k : Int) ∧ sv = .string s ∧ Hid (s = unitN ps k) ∧ Hid (Below w.heap.size w wr)) (fun _ iv _ => n - (intOf iv).toNat)
  case atStart => exact ⟨0, _, Nat.zero_le _, rfl, rfl, rfl, Below.refl _ _⟩
  case round =>
    obtain ⟨k, s, hk, rfl, rfl, HS, HB⟩ := hrel
    by_cases hlt : k < n
    · obtain ⟨p, hp⟩ : ∃ p, ps[k]? = some p := ⟨ps[k]'(by rw [← HN.out]; exact hlt), List.getElem?_eq_getElem _⟩
      have HFP : Hid (FitP p) := HF.out _ (List.mem_of_getElem? hp)
      obtain ⟨ad, A1, A2, c1, c2, rfl, had, a0, a1, a2, HC1, HC2⟩ := (h.up HB).at_ hp
      obtain ⟨l1, l2, t⟩ := p
      obtain ⟨S, hS⟩ : ∃ S, partS (l1, l2, t) = S := ⟨_, rfl⟩
      have hSS : S.size ≤ 140737488355328 := hS ▸ partS_size HFP.out
      have C0 : Hid (Calls Tryz.prog 46 #[.agg #[.slice A1 l1.length c1, .slice A2 l2.length c2, .string t]] wr (StrR wr S)) := hS ▸ rpart_any (p := (l1, l2, t)) HC1 rfl HC2 rfl HFP.out.1 HFP.out.2.1 HFP.out.2.2
      have hs0 : s.size ≤ k * 140737488355333 := by rw [HS.out]; exact unitN_size HF.out k
      have HX : Hid (unitN ps (k + 1) = (if 0 < k then s ++ ⟨#[45, 97, 110, 100, 45]⟩ else s) ++ S) := by
        rw [HS.out, ← hS]
        unfold Hid
        rw [unitN, hp]
      have k0 : (0 : Int) ≤ (k : Int) := by omega
      have k1 : (k : Int) < (n : Int) := by omega
      have hs1 : s.size ≤ 140737488355333000 := by omega
      clear hp hS hs0 HFP HC1 HC2
      by_cases h0 : k = 0
      · subst h0
        simp only [Nat.zero_mul, addr_zero] at a0 a1 a2
        have d1 : ¬ 9223372036854775807 < s.size + S.size := by omega
        have d2 : ¬ maxLen < s.size + S.size := by unfold maxLen; omega
        go_wp2_with (first | (go_at_call 46; (with_reducible refine (C0.out).mono ?_); rintro e w2 ⟨rfl, hb2⟩) | fail)
        go_roundw
        case rel => exact ⟨1, s ++ S, by omega, rfl, rfl, khide HX.out.symm, HB.out.trans (hb2.out.mono HB.out.size)⟩
        case measure => simp [intOf]; omega
      · have e0 : decide ((0 : Int) < (k : Int)) = true := decide_eq_true (by omega)
        have e1 : decide (0 < k) = true := decide_eq_true (by omega)
        have e2 : 0 < k := by omega
        have d0 : ¬ 9223372036854775807 < s.size + 5 := by omega
        have d1 : ¬ 9223372036854775807 < s.size + 5 + S.size := by omega
        replace HX : Hid (unitN ps (k + 1) = s ++ ⟨#[45, 97, 110, 100, 45]⟩ ++ S) := by rw [HX.out, if_pos e2]; rfl
        go_wp2_with (first | (go_at_call 46; (with_reducible refine (C0.out).mono ?_); rintro e w2 ⟨rfl, hb2⟩) | fail)
        go_roundw
        case rel => exact ⟨k + 1, s ++ ⟨#[45, 97, 110, 100, 45]⟩ ++ S, by omega, by go_num, rfl, khide HX.out.symm, HB.out.trans (hb2.out.mono HB.out.size)⟩
        case measure => simp [intOf]; omega
    · obtain rfl : k = n := by omega
      go_wp2
      go_ret
      exact ⟨by rw [show unitS ps = s by rw [HS.out, HN.out]; rfl]; rfl, HB⟩
end Go.Proofs.YthdpojkeceoiiaaGreatDoor
end

section
/- A slice of slices that the call itself builds: one element more behind its last part; what it reads as. No conditions. -/
open Go.RowKit
namespace Go.Proofs.YthdpojkeceoiiaaGreatDoor
section
variable {base : Nat} {tO ti : TypeId} {w w' : World} {css : List (List ByteArray)} {vs : List Value} {g cap : Nat}
theorem Bld.put (h : Bld base tO ti w (.slice (some ⟨g, 0, none⟩) css.length cap) css vs) (hne : tO ≠ ti) {j : Nat} {y : Value} {cs : List ByteArray} (hy : vs[j]? = some y) (hcs : css[j]? = some cs)
    {o : Obj} {v' : Value} {x : ByteArray} (ho : w'.ownsRow base ti 1 v' (cs.length + 1) (cs.map Value.string ++ [.string x])) (hg : (w.alloc o).grownBy w' y.ownBlock)
    (hat : v'.ownBlock = y.ownBlock ∨ v'.ownBlock = some (w.alloc o).heap.size) :
    Bld base tO ti (w'.setCell ⟨g, j, none⟩ v') (.slice (some ⟨g, 0, none⟩) css.length cap) (css.set j (cs ++ [x])) (vs.set j v') := by
  have hl := h.len
  have hyo := h.inner j y cs hy hcs
  have houter : w'.ownsRow base tO 1 (.slice (some ⟨g, 0, none⟩) css.length cap) css.length vs := (h.own.alloc o).kept hg (own_type_ne (h.own.alloc o) (hyo.alloc o) hne)
  have hst := World.ownsRow.stored houter j v'
  have hjv : j < vs.length := by
    rcases Nat.lt_or_ge j vs.length with h1 | h1
    · exact h1
    · rw [List.getElem?_eq_none h1] at hy; cases hy
  have keep : ∀ {z : Value} {n : Nat} {zs : List Value}, w'.ownsRow base ti 1 z n zs → (w'.setCell ⟨g, j, none⟩ v').ownsRow base ti 1 z n zs := fun {z n zs} hz =>
    hz.kept hst.2 (by rcases own_type_ne hz houter (Ne.symm hne) with e | e; (· exact .inl e); (· exact .inr e))
  refine ⟨by rw [List.length_set]; exact hst.1, fun i x' cs' h1 h2 => ?_, fun i k x' y' h1 h2 hik => ?_⟩
  · by_cases hij : i = j
    · subst hij
      rw [List.getElem?_set_self hjv] at h1
      rw [List.getElem?_set_self (by omega)] at h2
      injection h1 with h1
      injection h2 with h2
      subst h1; subst h2
      have := keep ho
      rw [List.length_append, List.map_append]
      exact this
    · rw [List.getElem?_set_ne (Ne.symm hij)] at h1 h2
      have hx := h.inner i x' cs' h1 h2
      exact keep ((hx.alloc o).kept hg (h.apart i j x' y h1 hy hij))
  · have new : ∀ {i : Nat} {x' : Value}, vs[i]? = some x' → x'.ownBlock ≠ some (w.alloc o).heap.size := fun {i x'} hx e => by
      have hi : i < css.length := by
        rcases Nat.lt_or_ge i css.length with h3 | h3
        · exact h3
        · rw [List.getElem?_eq_none (by omega)] at hx; cases hx
      have h3 := (h.inner i x' _ hx (List.getElem?_eq_getElem hi)).lt _ e
      simp at h3
      omega
    by_cases hi : i = j
    · subst hi
      rw [List.getElem?_set_self hjv] at h1
      injection h1 with h1
      subst h1
      rw [List.getElem?_set_ne hik] at h2
      rcases hat with e | e
      · rw [e]; exact h.apart i k y y' hy h2 hik
      · rw [e]; exact .inr (Ne.symm (new h2))
    · rw [List.getElem?_set_ne (Ne.symm hi)] at h1
      by_cases hk : k = j
      · subst hk
        rw [List.getElem?_set_self hjv] at h2
        injection h2 with h2
        subst h2
        rcases hat with e | e
        · rw [e]; exact h.apart i k x' y h1 hy hik
        · rw [e]; exact .inr (new h1)
      · rw [List.getElem?_set_ne (Ne.symm hk)] at h2
        exact h.apart i k x' y' h1 h2 hik
/-- The address and capacity that a slice value bears. -/
def bears : Option Value → Option Addr × Nat
  | some (.slice A _ c) => (A, c)
  | _ => (none, 0)
theorem Bld.rss (h : Bld base tO ti w (.slice (some ⟨g, 0, none⟩) css.length cap) css vs) : RSS w w.heap.size (some ⟨g, 0, none⟩) css := fun hn => by
  have hl := h.len
  refine ⟨_, fun j => bears vs[j]?, rfl, (h.own.lt g rfl).2, fun j cs hcs => ?_⟩
  have hj : j < vs.length := by
    rcases Nat.lt_or_ge j vs.length with h1 | h1
    · exact h1
    · rw [List.getElem?_eq_none (by omega)] at hcs; cases hcs
  have hx := List.getElem?_eq_getElem hj
  have hc := h.own.cells (g := g) rfl j _ hx
  have ho := h.inner j _ cs hx hcs
  show w.cell? _ = some (Value.slice (bears vs[j]?).1 cs.length (bears vs[j]?).2) ∧ RS w w.heap.size (bears vs[j]?).1 cs ∧ ((bears vs[j]?).1 = none → (bears vs[j]?).2 = 0)
  rw [hx]
  have form : ∃ A c, vs[j] = .slice A cs.length c ∧ (A = none → c = 0) := by
    rcases ho.2 with ⟨e, e2⟩ | ⟨g', cap', cur, e, _⟩
    · exact ⟨none, 0, by rw [e, e2], fun _ => rfl⟩
    · exact ⟨_, _, e, fun h => by cases h⟩
  obtain ⟨A, c, e, e3⟩ := form
  rw [e] at hc ho ⊢
  exact ⟨hc, RS.of_own ho, e3⟩
theorem Bld.form {v : Value} (h : Bld base tO ti w v css vs) (hn : 0 < css.length) : ∃ g cap, v = .slice (some ⟨g, 0, none⟩) css.length cap := by
  rcases h.own.2 with ⟨_, e⟩ | ⟨g, cap, cur, e, _⟩
  · omega
  · exact ⟨g, cap, e⟩
theorem Bld.cell {j : Nat} {y : Value} (h : Bld base tO ti w (.slice (some ⟨g, 0, none⟩) css.length cap) css vs) (hy : vs[j]? = some y) : w.cell? ⟨g, j, none⟩ = some y := by
  have hl := h.len
  have hj : j < vs.length := by
    rcases Nat.lt_or_ge j vs.length with h1 | h1
    · exact h1
    · rw [List.getElem?_eq_none h1] at hy; cases hy
  rw [World.ownsRow.cellAt h.own j (by omega)]
  exact hy
/-- One nil slice, made. -/
theorem Bld.start (hb : base ≤ w.heap.size) : Bld base tO ti (w.alloc (.cells #[.slice none 0 0] tO)) (.slice (some ⟨w.heap.size, 0, none⟩) 1 1) [[]] [.slice none 0 0] := by
  refine ⟨World.ownsRow_lit w _ 1 hb (by decide) rfl, fun j x cs h1 h2 => ?_, fun i j x y h1 h2 hij => ?_⟩
  · cases j with
    | zero => simp at h1 h2; subst h1; subst h2; exact World.ownsRow_nil _ _ _ _
    | succ j => simp at h1
  · cases i with
    | zero => simp at h1; subst h1; exact .inl rfl
    | succ i => simp at h1
end
theorem set_last {a c : ByteArray} {css : List (List ByteArray)} {j : Nat} {cs : List ByteArray} (hc : c ≠ a) (hj : css.length = j + 1) (hcs : css[j]? = some cs) : css.set j (cs ++ [c]) = cutMore a c css := by
  unfold cutMore
  rw [if_neg hc]
  have hl : css.getLastD [] = cs := by
    rw [List.getLastD_eq_getLast?, List.getLast?_eq_getElem?, show css.length - 1 = j by omega, hcs]; rfl
  rw [hl]
  obtain ⟨pre, hp⟩ : ∃ pre, css = pre ++ [cs] := by
    refine ⟨css.take j, ?_⟩
    have hlt : j < css.length := by omega
    rw [List.getElem?_eq_getElem hlt] at hcs
    injection hcs with hcs
    rw [← hcs, ← List.take_succ_eq_append_getElem hlt, List.take_of_length_le (by omega)]
  subst hp
  have hpl : pre.length = j := by simp at hj; exact hj
  subst hpl
  rw [List.set_append, if_neg (by omega), Nat.sub_self, List.dropLast_concat]
  rfl
theorem cut_step {a c : ByteArray} {xs : List ByteArray} {k : Nat} (h : xs[k]? = some c) : cutBy a (xs.take (k + 1)) = cutMore a c (cutBy a (xs.take k)) := by
  rw [List.take_add_one, h]
  exact cutBy_snoc _ _
theorem own_form {w : World} {base : Nat} {e : TypeId} {v : Value} {n : Nat} {xs : List Value} (h : w.ownsRow base e 1 v n xs) (hn : 0 < n) : ∃ g cap, v = .slice (some ⟨g, 0, none⟩) n cap := by
  rcases h.2 with ⟨_, e⟩ | ⟨g, cap, cur, e, _⟩
  · omega
  · exact ⟨g, cap, e⟩
theorem arm_facts {w w1 : World} {base g m cap l : Nat} {tO ti : TypeId} {vs ys zs : List Value} {y v1 : Value} {o : Obj} (hw : Hid (w.ownsRow base tO 1 (.slice (some ⟨g, 0, none⟩) (m + 1) cap) (m + 1) vs)) (hoy : Hid (w.ownsRow base ti 1 y l ys)) (hne : tO ≠ ti)
    (hy : Hid (vs[m]? = some y)) (ho : w1.ownsRow base ti 1 v1 (l + 1) zs) (hg : (w.alloc o).grownBy w1 y.ownBlock) :
    (∃ g1 cap1, v1 = .slice (some ⟨g1, 0, none⟩) (l + 1) cap1) ∧ w1.cell? ⟨g, m, none⟩ = some y ∧ w1.frozen? ⟨g, m, none⟩ = false := by
  have h2 := (hw.out.alloc o).kept hg (own_type_ne (hw.out.alloc o) (hoy.out.alloc o) hne)
  refine ⟨own_form ho (by omega), ?_, World.ownsRow.frozenAt h2 m⟩
  rw [World.ownsRow.cellAt h2 m (by omega)]
  exact hy.out
theorem ymem_le_sum {x : Nat} {l : List Nat} (h : x ∈ l) : x ≤ l.sum := by
  induction l with
  | nil => simp at h
  | cons y l ih =>
    rw [List.sum_cons]
    rcases List.mem_cons.1 h with rfl | h
    · omega
    · have := ih h; omega
theorem cutBy_piece {a : ByteArray} {l p : List ByteArray} (h : p ∈ cutBy a l) : p.length ≤ l.length := by
  have h1 := cutBy_total (a := a) l
  have h2 := ymem_le_sum (List.mem_map_of_mem (f := List.length) h)
  omega
end Go.Proofs.YthdpojkeceoiiaaGreatDoor
end

section
/- Words: Cut. Conditions: a row of at most 1000000 texts. -/
open Go.RowKit
set_option maxRecDepth 100000
namespace Go.Proofs.YthdpojkeceoiiaaGreatDoor
theorem Tryz.infoStr : (Tryz.prog.info? 9).map (fun i => (i.zero, i.size, i.bytes)) = some (some (.string ByteArray.empty), 1, 16) := by kernel_rfl
theorem Tryz.infoStrs : (Tryz.prog.info? 23).map (fun i => (i.zero, i.size, i.bytes)) = some (some (.slice none 0 0), 1, 24) := by kernel_rfl
/-- What a call leaves that returns lists of strings. -/
def ListsR (W : World) (css : List (List ByteArray)) (e : Ending) (w' : World) : Prop := ∃ ad c, e = .returned (.slice (some ad) css.length c) ∧ Sss w' (some ad) css ∧ Hid (Below W.heap.size W w')
def BldT (w : World) (wr : World) (v : Value) (css : List (List ByteArray)) (vs : List Value) : Prop := Bld w.heap.size 23 9 wr v css vs
theorem str_neY {x y : ByteArray} (h : x ≠ y) : (x.toList == y.toList) = false := by
  rw [beq_eq_false_iff_ne]
  intro e
  rw [Lib.toList_data, Lib.toList_data] at e
  exact h (ByteArray.ext (Array.ext' e))
theorem cut_len {x : ByteArray} {xs : List ByteArray} (k : Nat) : (cutBy x (xs.take k)).length ≤ k + 1 := by
  have h1 := cutBy_le (a := x) (xs.take k)
  have h2 : (xs.take k).length ≤ k := List.length_take_le _ _
  omega
/-- Each slice of the row holds no more than it has room for. -/
def Caps (w : World) (ad : Addr) (css : List (List ByteArray)) : Prop := ∀ (j : Nat) (A : Option Addr) (n c : Nat), j < css.length → w.cell? (ad.add j) = some (.slice A n c) → n ≤ c
theorem Caps.up {W W' : World} {ad : Addr} {css : List (List ByteArray)} (h : Caps W ad css) (hb : Hid (Below W.heap.size W W')) (hl : ad.block < W.heap.size) : Caps W' ad css := fun j A n c hj hc =>
  h j A n c hj ((hb.out.cell (by rw [yblock_add]; exact hl)).symm.trans hc)
theorem Bld.caps {base : Nat} {tO ti : TypeId} {w : World} {g cap : Nat} {css : List (List ByteArray)} {vs : List Value} (h : Bld base tO ti w (.slice (some ⟨g, 0, none⟩) css.length cap) css vs) : Caps w ⟨g, 0, none⟩ css := fun j A n c hj hc => by
  have hl := h.len
  have hx := List.getElem?_eq_getElem (show j < vs.length by omega)
  have hc2 := h.own.cells (g := g) rfl j _ hx
  have ho := h.inner j _ _ hx (List.getElem?_eq_getElem hj)
  rw [hc] at hc2
  injection hc2 with hc2
  rw [← hc2] at ho
  rcases ho.2 with ⟨h0, _⟩ | ⟨g', cap', cur, h0, _, _, h3, _⟩
  · injection h0 with _ h1 h2; omega
  · injection h0 with _ h1 h2; omega
def ListsC (W : World) (css : List (List ByteArray)) (e : Ending) (w' : World) : Prop := ∃ ad c, e = .returned (.slice (some ad) css.length c) ∧ Sss w' (some ad) css ∧ Caps w' ad css ∧ Hid (Below W.heap.size W w')
set_option maxHeartbeats 2000000 in
theorem wcut_any {A : Option Addr} {n c : Nat} {xs : List ByteArray} {t : ByteArray} {w : World} (h : Ss w A xs) (hn : n = xs.length) (hl : n ≤ 1000000) :
    Calls Tryz.prog 24 #[.slice A n c, .string t] w (ListsC w (cutBy t xs)) := by
  have HN := yhide hn
  clear hn
  have hmk := run_make_row' (P := Tryz.prog) 63 23 (.slice none 0 0) 24 Tryz.underlying63 Tryz.infoStrs rfl .i64 .i64 1 (by decide) (by decide)
  have hmk1 : ∀ W : World, (Instr.makeSlice 63 (.int .i64 1) (.int .i64 1)).run Tryz.prog W = .ok (.slice (some ⟨W.heap.size, 0, none⟩) 1 1) (W.alloc (.cells #[.slice none 0 0] 23)) := fun W => by
    have h1 := hmk W
    rw [show madeCells #[Value.slice none 0 0] 1 = #[Value.slice none 0 0] by kernel_rfl] at h1
    exact h1
  clear hmk
  obtain ⟨i0, hi0, hz0, hz1, hz2⟩ := info_parts Tryz.infoStrs
  have I0 := yhide hi0; have Z0 := yhide hz0; have Z1 := yhide hz1; have Z2 := yhide hz2
  clear hi0 hz0 hz1 hz2
  obtain ⟨j0, hj0, hy0, hy1, hy2⟩ := info_parts Tryz.infoStr
  have J0 := yhide hj0; have Y0 := yhide hy0; have Y1 := yhide hy1; have Y2 := yhide hy2
  clear hj0 hy0 hy1 hy2
  go_enter Tryz.func24, Tryz.ntmps24
  go_wp2
  clear hmk1
  go_loopw [5, 12] (fun lv iv wr => ∃ (k m g cap : Nat) (css : List (List ByteArray)) (vs : List Value), k ≤ n ∧ m ≤ k ∧ iv = .int .i64 (k : Int) ∧ lv = .slice (some ⟨g, 0, none⟩) (m + 1) cap ∧ Hid (css.length = m + 1) ∧ Hid (css = cutBy t (xs.take k)) ∧
      Hid (BldT w wr (.slice (some ⟨g, 0, none⟩) css.length cap) css vs) ∧ Hid (Below w.heap.size w wr)) (fun _ iv _ => n - (intOf iv).toNat)
  case atStart => exact ⟨0, 0, w.heap.size, 1, [[]], [.slice none 0 0], Nat.zero_le _, Nat.le_refl _, rfl, rfl, rfl, rfl, Bld.start (Nat.le_refl _), (Below.refl _ _).alloc (Nat.le_refl _) _⟩
  case round =>
    obtain ⟨k, m, g, cap, css, vs, hk, hmk, rfl, rfl, hcl, hcs, hbld, hbk⟩ := hrel
    by_cases hlt : k < n
    · have hx : k < xs.length := by rw [← HN.out]; exact hlt
      obtain ⟨ad, rfl, hb, hcell⟩ := h.out.at_ hx
      obtain ⟨x, hxe⟩ : ∃ x, x = xs[k] := ⟨_, rfl⟩
      have HX : Hid (xs[k]? = some x) := by rw [hxe]; exact List.getElem?_eq_getElem hx
      rw [← hxe] at hcell
      replace hcell : wr.cell? (ad.add k) = some (.string x) := (hbk.out.cell (by rw [yblock_add]; exact hb)).trans hcell
      have HBW := yhide hbk.out.size
      clear hxe hx
      by_cases he : x = t
      · subst he
        have HOW : Hid (wr.ownsRow w.heap.size 23 1 (.slice (some ⟨g, 0, none⟩) (m + 1) cap) (m + 1) vs) := by have := hbld.out.own; rw [hcl.out] at this; exact this
        go_wp2_with (first | (at_builtin; go_must (refine wpList_append_own_at _ rfl (.tmp 19) (.tmp 20) 63 rfl w.heap.size 23 i0 (.slice none 0 0) 1 24 Tryz.underlying63 I0.out Z0.out Z1.out Z2.out rfl (by decide) (.slice (some ⟨g, 0, none⟩) (m + 1) cap) _ _ rfl (HOW.out.alloc _) ⟨wr.heap.size, 0, none⟩ 1 1 [.slice none 0 0] rfl rfl (cell_one_new _ _ _) (by intro u hu; simp at hu; subst hu; rfl) (by simp only [maxLen]; omega) (by omega) (Nat.le_trans HBW.out (by simp)) ?_); intro v1 w1 ho1 hg1 hn1 ha1; clear hn1 ha1) | fail)
        have hB2 : Bld w.heap.size 23 9 w1 v1 (css ++ [[]]) (vs ++ [.slice none 0 0]) := Bld.more (Bld.alloc hbld.out _) (by decide) (by rw [hcl.out]; exact ho1) (by rw [hcl.out]; exact hg1)
        obtain ⟨g1, cap1, hv1⟩ := hB2.form (by simp)
        have hv2 : v1 = .slice (some ⟨g1, 0, none⟩) (m + 1 + 1) cap1 := by rw [hv1]; simp [hcl.out]
        have HB2 := yhide hB2
        have HB3 : Hid (Below w.heap.size w w1) := (hbk.out.alloc HBW.out _).grown hg1 (Nat.le_trans HBW.out (by simp)) (fun g' e => (hbld.out.own.lt g' (by rw [hcl.out]; exact e)).1)
        clear hv1 hB2 hg1 ho1
        subst hv2
        go_roundw
        case rel =>
          refine ⟨k + 1, m + 1, g1, cap1, css ++ [[]], vs ++ [.slice none 0 0], by omega, by omega, by go_num, rfl, by unfold Hid; simp [hcl.out], ?_, ?_, HB3⟩
          · unfold Hid
            rw [cut_step HX.out, ← hcs.out]
            unfold cutMore
            rw [if_pos rfl]
          · have := HB2.out
            unfold Hid BldT
            rw [List.length_append, hcl.out]
            exact this
        case measure => simp [intOf]; omega
      · have hne := str_neY he
        have HE := yhide he
        have hm1 : m < css.length := by rw [hcl.out]; omega
        have hm2 : m < vs.length := by rw [Bld.len hbld.out]; exact hm1
        obtain ⟨y, hye⟩ : ∃ y, y = vs[m] := ⟨_, rfl⟩
        obtain ⟨cs, hce⟩ : ∃ cs, cs = css[m] := ⟨_, rfl⟩
        have HY : Hid (vs[m]? = some y) := by rw [hye]; exact List.getElem?_eq_getElem hm2
        have HC : Hid (css[m]? = some cs) := by rw [hce]; exact List.getElem?_eq_getElem hm1
        have hcsl : cs.length ≤ 1000000 := by
          have h1 : cs ∈ cutBy t (xs.take k) := by rw [← hcs.out, hce]; exact List.getElem_mem hm1
          have h2 := cutBy_piece h1
          have h3 : (xs.take k).length ≤ k := List.length_take_le _ _
          omega
        have hcy : wr.cell? ⟨g, m, none⟩ = some y := Bld.cell hbld.out HY.out
        have HOW : Hid (wr.ownsRow w.heap.size 23 1 (.slice (some ⟨g, 0, none⟩) (m + 1) cap) (m + 1) vs) := by have := hbld.out.own; rw [hcl.out] at this; exact this
        have HOY : Hid (wr.ownsRow w.heap.size 9 1 y cs.length (cs.map Value.string)) := hbld.out.inner m y cs HY.out HC.out
        clear he hye hce hm1 hm2
        go_wp2_with (first | (at_builtin; go_must (refine wpList_append_own_at _ rfl (.tmp 30) (.tmp 32) 23 rfl w.heap.size 9 j0 (.string ByteArray.empty) 1 16 Tryz.underlying23 J0.out Y0.out Y1.out Y2.out rfl (by decide) y _ _ rfl (HOY.out.alloc _) ⟨wr.heap.size, 0, none⟩ 1 1 [.string x] rfl rfl (cell_one_new _ _ _) (by intro u hu; simp at hu; subst hu; rfl) (by simp only [maxLen]; omega) (by omega) (Nat.le_trans HBW.out (by simp)) ?_; intro v1 w1 ho1 hg1 hn1 ha1; clear hn1; obtain ⟨⟨g1, cap1, rfl⟩, hc2, hf2⟩ := arm_facts HOW HOY (by decide) HY ho1 hg1; have HO1 := yhide ho1; have HG1 := yhide hg1; have HA1 := yhide ha1; clear ho1 hg1 ha1)))
        go_roundw
        case rel =>
          have hB2 := Bld.put hbld.out (by decide) HY.out HC.out (x := x) HO1.out HG1.out HA1.out
          refine ⟨k + 1, m, g, cap, css.set m (cs ++ [x]), vs.set m (.slice (some ⟨g1, 0, none⟩) (cs.length + 1) cap1), by omega, by omega, by go_num, rfl, by unfold Hid; rw [List.length_set]; exact hcl.out, ?_, ?_, ?_⟩
          · unfold Hid
            rw [cut_step HX.out, ← hcs.out]
            exact set_last HE.out hcl.out HC.out
          · unfold Hid BldT
            rw [List.length_set]
            exact hB2
          · exact (((hbk.out.alloc HBW.out _).grown HG1.out (Nat.le_trans HBW.out (by simp)) (fun g' e => (HOY.out.lt g' e).1)).setCell (p := ⟨g, m, none⟩) (hbld.out.own.lt g rfl).1 _)
        case measure => simp [intOf]; omega
    · obtain rfl : k = n := by omega
      have HR : Hid (ListsC w (cutBy t xs) (.returned (.slice (some ⟨g, 0, none⟩) (m + 1) cap)) wr) := by
        have e : cutBy t xs = css := by
          rw [hcs.out, List.take_of_length_le (by rw [← HN.out]; exact Nat.le_refl _)]
        rw [e]
        exact ⟨⟨g, 0, none⟩, cap, by rw [hcl.out], Bld.rss hbld.out, Bld.caps hbld.out, hbk⟩
      go_wp2
      go_ret
      exact HR.out
end Go.Proofs.YthdpojkeceoiiaaGreatDoor
end
