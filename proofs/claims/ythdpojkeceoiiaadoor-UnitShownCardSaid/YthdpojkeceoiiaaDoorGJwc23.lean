/- Several texts in one, each with its own sentence and conditions. -/
import Derived.Test.YthdpojkeceoiiaaDoorGJwc22
import Derived.Test.YthdpojkeceoiiaaDoorGJwc17
import Derived.Deep.CutRange
section
/- unit.ShowPart of any part, unit.Show. Conditions: parts that fit. -/
open Go.RowKit
set_option maxRecDepth 100000
namespace Go.Proofs.YthdpojkeceoiiaaDoor
def sepB : ByteArray := ⟨#[45, 97, 110, 100, 45]⟩
theorem pApp_of {w W1 : World} {A : Option Addr} {n c : Nat} {l : List AL} (h : Cs w A (cellsA l)) (hn : n = l.length) (hf : FitL l) (hb : Hid (Below w.heap.size w W1)) : PApp W1 A n c (showsA l) := fun W R z cp xs hB hz hzl ho =>
  appendShown_any hB (h.up hb) hn (by have := hf.1; omega) hz hzl ho hf.2
theorem shows_len (l : List AL) : (showsA l).length = l.length := List.length_map _
theorem ushow_part {w : World} {v1 v2 v3 : Value} {q : QL} (hq : Q1 w v1 v2 v3 q) (hf : FitP (toP q)) : Calls Tryd.prog 14 #[.agg #[v1, v2, v3]] w (StrR w (partS (toP q))) := by
  obtain ⟨A1, c1, A2, c2, A3, c3, rfl, rfl, rfl, b1, b2, b3, b4, r1, r2, r3, -, -⟩ := hq.open_
  obtain ⟨l1, l2, ws⟩ := q
  obtain ⟨f1, f2, f3⟩ := hf
  have e1 : (toP (l1, l2, ws)).1 = l1 := rfl
  have e2 : (toP (l1, l2, ws)).2.1 = l2 := rfl
  rw [e1] at f1
  rw [e2] at f2
  have C1 : ∀ W1, Hid (Below w.heap.size w W1) → PApp W1 A1 l1.length c1 (showsA l1) := fun W1 hb => pApp_of r1 rfl f1 hb
  have C2 : ∀ W1, Hid (Below w.heap.size w W1) → PApp W1 A2 l2.length c2 (showsA l2) := fun W1 hb => pApp_of r2 rfl f2 hb
  have L1 : (showsA l1).length ≤ 1000 := by rw [shows_len]; exact f1.1
  have L2 : (showsA l2).length ≤ 1000 := by rw [shows_len]; exact f2.1
  have HP : partW (toP (l1, l2, ws)) = if l2 = [] ∧ nuT (val W32 ws) = oneB then showsA l1 else if nuT (val W32 ws) = oneB then showsA l1 ++ [perB] ++ showsA l2 else showsA l1 ++ [perB] ++ [nuT (val W32 ws)] ++ showsA l2 := rfl
  unfold partS
  obtain ⟨zs, hzs⟩ : ∃ zs, partW (toP (l1, l2, ws)) = zs := ⟨_, rfl⟩
  rw [hzs] at HP f3 ⊢
  by_cases hv : val W32 ws = 1
  · have hv' := (nuT_one_iff _).2 hv
    by_cases hm : l2.length = 0
    · have h2 : l2 = [] := List.eq_nil_of_length_eq_zero hm
      rw [if_pos ⟨h2, hv'⟩] at HP
      exact ushow_a0 hv hm r3 C1 C2 L1 L2 (by rw [HP, h2]; exact (List.append_nil _).symm) f3 rfl
    · have h2 : l2 ≠ [] := fun e => hm (by rw [e]; rfl)
      rw [if_neg (fun k => h2 k.1), if_pos hv'] at HP
      exact ushow_a1 hv (Nat.pos_of_ne_zero hm) r3 C1 C2 L1 L2 HP f3 rfl
  · have hv' : nuT (val W32 ws) ≠ oneB := fun e => hv ((nuT_one_iff _).1 e)
    rw [if_neg (fun k => hv' k.2), if_neg hv'] at HP
    by_cases hm : l2.length = 0
    · exact ushow_b0 hv hm r3 C1 C2 L1 L2 HP f3 rfl
    · exact ushow_b1 hv (Nat.pos_of_ne_zero hm) r3 C1 C2 L1 L2 HP f3 rfl
theorem join_take {sep : List UInt8} {xs : List (List UInt8)} {k : Nat} {y : List UInt8} (h : xs[k]? = some y) : Lib.join (xs.take (k + 1)) sep = (if 0 < k then Lib.join (xs.take k) sep ++ sep else Lib.join (xs.take k) sep) ++ y := by
  cases xs with
  | nil => simp at h
  | cons x r =>
    cases k with
    | zero => simp at h; subst h; rw [if_neg (Nat.lt_irrefl 0)]; simp [Lib.join_one, Lib.join_nil]
    | succ k =>
      rw [if_pos (Nat.succ_pos _)]
      have h1 : r[k]? = some y := by simpa using h
      rw [List.take_succ_cons, List.take_succ_cons, Lib.join_cons, Lib.join_cons, Lib.joinTail_take_succ sep r k y h1]
      simp [List.append_assoc]
theorem unitN_join (ps : List PL) : ∀ k, k ≤ ps.length → (unitN ps k).data.toList = Lib.join (((ps.map partS).map (·.data.toList)).take k) sepB.data.toList
  | 0, _ => rfl
  | k + 1, hk => by
    have ih := unitN_join ps k (by omega)
    have hp : ps[k]? = some ps[k] := List.getElem?_eq_getElem (by omega)
    have h1 : ((ps.map partS).map (·.data.toList))[k]? = some (partS ps[k]).data.toList := by rw [List.getElem?_map, List.getElem?_map, hp]; rfl
    rw [join_take h1, unitN, hp, ← ih, app_data]
    by_cases h0 : 0 < k
    · rw [if_pos h0, if_pos h0, app_data]; rfl
    · rw [if_neg h0, if_neg h0]
theorem unitS_join (ps : List PL) : (unitS ps).data.toList = Lib.join ((ps.map partS).map (·.data.toList)) sepB.data.toList := by
  unfold unitS
  rw [unitN_join ps _ (Nat.le_refl _), List.take_of_length_le (by simp)]
theorem sjoin5_any {w : World} {A : Option Addr} {n c : Nat} {ps : List PL} (h : Ss w A (ps.map partS)) (hn : n = ps.length) (hc : n ≤ c) (hN : n ≤ 1000000) (hl : (unitS ps).size ≤ 140737488355328) :
    Calls Tryd.prog 15 #[.slice A n c, .string ⟨#[45, 97, 110, 100, 45]⟩] w (StrR w (unitS ps)) := by
  have hJ := unitS_join ps
  have e9 : unitS ps = ⟨(Lib.join ((ps.map partS).map (·.data.toList)) sepB.data.toList).toArray⟩ := by rw [← hJ]
  have hl2 : (Lib.join ((ps.map partS).map (·.data.toList)) sepB.data.toList).length ≤ 140737488355328 := by rw [← hJ]; rw [Lib.size_eq] at hl; exact hl
  obtain ⟨xs, hxs⟩ : ∃ xs, ps.map partS = xs := ⟨_, rfl⟩
  have hn2 : n = xs.length := by rw [← hxs, List.length_map]; exact hn
  rw [e9]
  rw [hxs] at h hl2 ⊢
  clear hJ e9 hl hn
  subst hn2
  cases xs with
  | nil =>
    refine (Tryd.strings_Join_none A c ⟨#[45, 97, 110, 100, 45]⟩ w).mono fun e w' ⟨he, hw⟩ => ⟨by rw [he]; rfl, by rw [hw]; exact Below.refl _ _⟩
  | cons x xs =>
    obtain ⟨ad, rfl, hb, hcell⟩ := h.out (by simp)
    have h0 := hcell 0 x rfl
    obtain ⟨b, o, hbo⟩ := plain_of h0
    rw [show ad.add 0 = ad by simp [Addr.add]] at hbo
    subst hbo
    have hcl : ∀ (j : Nat) y, (x :: xs)[j]? = some y → w.cell? ⟨b, o + j, none⟩ = some (.string y) := fun j y hj => by
      have h1 := hcell j y hj
      have e : (⟨b, o, none⟩ : Addr).add j = ⟨b, o + j, none⟩ := by unfold Addr.add; split <;> simp_all
      rwa [e] at h1
    have c1 := Tryd.strings_Join b o c (x :: xs) ⟨#[45, 97, 110, 100, 45]⟩ w hcl hb (by omega) hc hl2
    exact c1.mono fun e w' ⟨he, hw⟩ => ⟨he, hw⟩
/-- Block g is a row of n strings, of which the first are told, the rest empty. -/
def RowS (W : World) (g n : Nat) (xs : List ByteArray) : Prop := Hid (At W g (xs.map Value.string ++ List.replicate (n - xs.length) (.string ⟨#[]⟩)))
section
variable {W W' : World} {g n k : Nat} {xs : List ByteArray}
theorem RowS.up (h : RowS W g n xs) (hb : Hid (Below W.heap.size W W')) : RowS W' g n xs := h.out.up hb
theorem RowS.al (h : RowS W g n xs) (o : Obj) : RowS (W.alloc o) g n xs := h.out.al o
theorem RowS.lt (h : RowS W g n xs) : g < W.heap.size := h.out.lt
theorem RowS.zero (h : RowS W g n xs) (hl : xs.length = k) (hk : k < n) : W.cell? ⟨g, k, none⟩ = some (.string ⟨#[]⟩) ∧ W.frozen? ⟨g, k, none⟩ = false := by
  refine h.out.all k _ ?_
  rw [List.getElem?_append_right (by simp; omega), List.getElem?_replicate, if_pos (by simp; omega)]
theorem RowS.put (h : RowS W g n xs) (hl : xs.length = k) (hk : k < n) (s : ByteArray) : RowS (W.setCell ⟨g, k, none⟩ (.string s)) g n (xs ++ [s]) := by
  have h1 := h.out.put (i := k) (by simp; omega) (.string s)
  unfold RowS
  have e : (xs.map Value.string ++ List.replicate (n - xs.length) (Value.string ⟨#[]⟩)).set k (Value.string s) = (xs ++ [s]).map Value.string ++ List.replicate (n - (xs ++ [s]).length) (Value.string ⟨#[]⟩) := by
    rw [List.set_append_right _ _ (by simp; omega)]
    obtain ⟨d, hd⟩ : ∃ d, n - xs.length = d + 1 := ⟨n - xs.length - 1, by omega⟩
    rw [hd, List.length_map, hl, Nat.sub_self, List.replicate_succ, List.set_cons_zero, List.length_append, List.length_singleton, show n - (xs.length + 1) = d by omega]
    simp
  rw [← e]; exact h1
theorem RowS.ss (h : RowS W g n xs) (hl : xs.length = n) : Ss W (some ⟨g, 0, none⟩) xs := fun h0 => by
  refine ⟨_, rfl, h.out.lt, fun j x hj => ?_⟩
  rw [plain_add3]
  refine h.out.ci ?_
  rw [List.getElem?_append_left (by rw [List.length_map]; exact (List.getElem?_eq_some_iff.1 hj).1), List.getElem?_map, hj]; rfl
end
theorem make_strs (n : Nat) (hn : n ≤ 1000000) (w : World) : (Instr.makeSlice 29 (.int .i64 (n : Int)) (.int .i64 (n : Int))).run Tryd.prog w =
    .ok (.slice (some ⟨w.heap.size, 0, none⟩) n n) (w.alloc (.cells (madeCells #[.string ⟨#[]⟩] n) 9)) := by
  obtain ⟨i0, hi0, hz0, hz1, hz2⟩ := info_parts hinfoStr
  have h := run_make (P := Tryd.prog) w 29 9 i0 (.string ByteArray.empty) Tryd.underlying29 hi0 hz0 .i64 .i64 n n (by omega) (by omega) (by rw [hz2]; omega) (by omega)
  have e : (⟨#[]⟩ : ByteArray) = ByteArray.empty := rfl
  rw [e]
  simpa [hz1, Value.cells] using h
theorem made_strs (w : World) (n : Nat) (t : TypeId) : RowS (w.alloc (.cells (madeCells #[.string ⟨#[]⟩] n) t)) w.heap.size n [] := by
  have e : madeCells #[Value.string ⟨#[]⟩] n = (List.replicate n (Value.string ⟨#[]⟩)).toArray := by
    apply Array.ext
    · simp [size_madeCells]
    · intro i h1 h2
      simp [madeCells, Nat.mod_one]
  rw [e]
  exact at_new0 _ _ _
set_option maxHeartbeats 8000000 in
theorem ushow_any {A : Option Addr} {n c : Nat} {qs : List QL} {w : World} (h : Qs w A qs) (hn : n = qs.length) (hl : n ≤ 1000) (hf : ∀ q ∈ qs, FitP (toP q)) (hJ : (unitS (qs.map toP)).size ≤ 140737488355328) :
    Calls Tryd.prog 7 #[.agg #[.slice A n c]] w (StrR w (unitS (qs.map toP))) := by
  obtain ⟨W1, hW1⟩ : ∃ X, X = w.alloc (.cells #[.slice A n c] 25) := ⟨_, rfl⟩
  have HU : At W1 w.heap.size [.slice A n c] := by rw [hW1]; exact at_new0 _ _ _
  have HB : Bel w W1 := by rw [hW1]; exact (Bel.refl w).al _
  have HN := khide hn
  have HF := khide hf
  have CJ : Hid (∀ (W : World) (g : Nat), Ss W (some ⟨g, 0, none⟩) ((qs.map toP).map partS) → Calls Tryd.prog 15 #[.slice (some ⟨g, 0, none⟩) n n, .string ⟨#[45, 97, 110, 100, 45]⟩] W (StrR W (unitS (qs.map toP)))) := fun W g hs => sjoin5_any hs (by rw [List.length_map]; exact hn) (Nat.le_refl _) (by omega) hJ
  obtain ⟨S, hS⟩ : ∃ S, unitS (qs.map toP) = S := ⟨_, rfl⟩
  rw [hS] at CJ ⊢
  have hmk : ∀ W : World, (Instr.makeSlice 29 (.int .i64 (n : Int)) (.int .i64 (n : Int))).run Tryd.prog W = .ok (.slice (some ⟨W.heap.size, 0, none⟩) n n) (W.alloc (.cells (madeCells #[.string ⟨#[]⟩] n) 9)) := fun W => make_strs n (by omega) W
  have HW := khide hW1
  clear hW1 hn hf hJ hS
  have hu_0 := HU.c0; have hu_l := HU.lt
  go_enter Tryd.func7, Tryd.ntmps7
  go_upto_region 1 with fail
  rw [← HW.out]
  go_upto_region 2 with fail
  clear hu_0 hu_l
  refine kwp_named ?_
  intro W2 hW2
  have HP : RowS W2 W1.heap.size n [] := by rw [hW2]; exact made_strs _ _ _
  have HG : Hid (w.heap.size < W1.heap.size) := HU.lt
  replace HU : At W2 w.heap.size [.slice A n c] := by rw [hW2]; exact HU.al _
  replace HB : Bel w W2 := by rw [hW2]; exact HB.al _
  obtain ⟨g, hg⟩ : ∃ g, g = W1.heap.size := ⟨_, rfl⟩
  rw [← hg] at HP HG
  rw [← hg]
  clear hW2 hg hmk HW
  have hu_0 := HU.c0; have hu_l := HU.lt
  go_wp2_with fail
  clear hu_0 hu_l
  go_loopw [13] (fun iv wr => ∃ (k : Nat), k ≤ n ∧ iv = .int .i64 (k : Int) ∧ RowS wr g n (((qs.map toP).map partS).take k) ∧ Hid (Bel w wr)) (fun iv _ => n - (intOf iv).toNat)
  case atStart => exact ⟨0, Nat.zero_le _, rfl, HP, HB⟩
  case round =>
    clear HP HU HB
    obtain ⟨k, hk, rfl, HP, HB⟩ := hrel
    have LL : Hid (((qs.map toP).map partS).length = n) := by unfold Hid; rw [List.length_map, List.length_map, HN.out]
    by_cases hlt : k < n
    · obtain ⟨q, hq⟩ : ∃ q, qs[k]? = some q := ⟨qs[k]'(by rw [← HN.out]; exact hlt), List.getElem?_eq_getElem _⟩
      obtain ⟨ad, v1, v2, v3, rfl, had, a0, a1, a2, HQ⟩ := (h.up HB.out.hid).at_ hq
      have HX : Hid (((qs.map toP).map partS).take (k + 1) = ((qs.map toP).map partS).take k ++ [partS (toP q)]) := by
        have hx : k < ((qs.map toP).map partS).length := by rw [LL.out]; exact hlt
        unfold Hid
        rw [List.take_succ_eq_append_getElem hx]
        have e : ((qs.map toP).map partS)[k]? = some (partS (toP q)) := by rw [List.getElem?_map, List.getElem?_map, hq]; rfl
        rw [List.getElem?_eq_getElem hx] at e
        injection e with e
        rw [e]
      obtain ⟨s, hs⟩ : ∃ s, partS (toP q) = s := ⟨_, rfl⟩
      have CS : Hid (∀ W : World, Q1 W v1 v2 v3 q → Calls Tryd.prog 14 #[.agg #[v1, v2, v3]] W (StrR W s)) := fun W hQ => hs ▸ ushow_part hQ (HF.out q (List.mem_of_getElem? hq))
      obtain ⟨A1, c1, A2, c2, A3, c3, rfl, rfl, rfl, -⟩ := HQ.open_
      rw [hs] at HX
      have k0 : (0 : Int) ≤ (k : Int) := by omega
      have k1 : (k : Int) < (n : Int) := by omega
      have HG2 : Hid (g < wr.heap.size) := HP.lt
      have hpk : (((qs.map toP).map partS).take k).length = k := by rw [List.length_take, LL.out]; omega
      have HPK := khide hpk
      have HQa := fun o => HQ.al (W := wr) o
      have HQb := khide HQa
      clear hq hs HQa HQ hpk
      go_wp2_with (first | (go_at_call 14; (with_reducible refine (CS.out _ (HQb.out _)).mono ?_); rintro e w2 ⟨rfl, hb2⟩; replace HP := (HP.al _).up hb2; replace HB := khide ((HB.out.al _).up hb2); obtain ⟨z0, f0⟩ := HP.zero HPK.out hlt; have zl := HP.lt) | fail)
      have HP2 := HP.put HPK.out hlt s
      have HB2 : Hid (Bel w (w2.setCell ⟨g, k, none⟩ (.string s))) := Below.setCell HB.out (by have := HG.out; show w.heap.size ≤ g; omega) _
      go_roundw
      case rel =>
        refine ⟨k + 1, by omega, by go_num, ?_, HB2⟩
        rw [HX.out]
        exact HP2
      case measure => simp [intOf]; omega
    · obtain rfl : k = n := by omega
      have HS : Hid (Ss wr (some ⟨g, 0, none⟩) ((qs.map toP).map partS)) := by
        have h9 := HP
        rw [List.take_of_length_le (by rw [LL.out]; exact Nat.le_refl _)] at h9
        exact h9.ss LL.out
      go_wp2_with (first | (go_at_call 15; (with_reducible refine (CJ.out _ _ HS.out).mono ?_); rintro e w2 ⟨rfl, hb2⟩) | fail)
      go_ret
      exact ⟨rfl, (HB.out.up hb2)⟩
end Go.Proofs.YthdpojkeceoiiaaDoor
end

section
/- unit.isLong, isTooGreat over slices.ContainsFunc. Conditions: atoms that fit. -/
open Go.RowKit
set_option maxRecDepth 100000
namespace Go.Proofs.YthdpojkeceoiiaaDoor
def longA (a : AL) : Bool := decide (256 < a.1.size + a.2.1.size)
theorem retB_mk {W w' : World} {b : Bool} {e : Ending} (h : e = .returned (.bool b)) (hb : Bel W w') : RetB W b e w' := ⟨h, hb⟩
theorem ret_bool {a b : Bool} (h : a = b) : Ending.returned (.bool a) = .returned (.bool b) := by rw [h]
def RetIx (W : World) (b : Bool) (e : Ending) (w' : World) : Prop := ∃ v : Int, e = .returned (.int .i64 v) ∧ Hid (decide (0 ≤ v) = b) ∧ Bel W w'
theorem any_take {α : Type} {l : List α} {p : α → Bool} {k : Nat} {a : α} (h : l[k]? = some a) : (l.take (k + 1)).any p = ((l.take k).any p || p a) := by
  obtain ⟨hk, he⟩ := List.getElem?_eq_some_iff.1 h
  rw [List.take_succ_eq_append_getElem hk, List.any_append, he]; simp
theorem any_hit {α : Type} {l : List α} {p : α → Bool} {k : Nat} {a : α} (h : l[k]? = some a) (hp : p a = true) : l.any p = true := List.any_eq_true.2 ⟨a, List.mem_of_getElem? h, hp⟩
def greatQ (q : QL) : Bool := decide (3 < q.2.2.length) || (decide (8 < q.1.length + q.2.1.length) || (q.1.any longA || q.2.1.any longA))
def FitA (l : List AL) : Prop := l.length ≤ 1000000 ∧ ∀ a ∈ l, a.1.size + a.2.1.size ≤ 1000000000000000
section
variable {w : World} {q : QL}
end
end Go.Proofs.YthdpojkeceoiiaaDoor
end

section
/- The law's own sameParts. Conditions: parts that fit, at most 1000. -/
open Go.RowKit
set_option maxRecDepth 100000
namespace Go.Proofs.YthdpojkeceoiiaaDoor
def sameP (l l' : List PL) : Bool := decide (l = l')
def LenP (ps : List PL) : Prop := ∀ p ∈ ps, p.1.length ≤ 1000000 ∧ p.2.1.length ≤ 1000000
set_option maxHeartbeats 3000000 in
theorem sameParts_any {A B : Option Addr} {n m c d : Nat} {l l' : List PL} {w : World} (h : Ps w A l) (h' : Ps w B l') (hn : n = l.length) (hm : m = l'.length) (hl : n ≤ 1000000) (hl' : m ≤ 1000000) (hf : LenP l) (hf' : LenP l') :
    Calls Tryd.prog 8 #[.slice A n c, .slice B m d] w (BoolQ w (sameP l l')) := by
  by_cases hnm : n = m
  · subst hnm
    have HN := khide hn
    have HM := khide hm
    have HF := khide hf
    have HF' := khide hf'
    clear hn hm hf hf'
    go_enter Tryd.func8, Tryd.ntmps8
    go_wp2
    go_loopw [5] (fun iv wr => ∃ k q : Nat, k ≤ n ∧ iv = .int .i64 (k : Int) ∧ Hid (wr = w.drewN q) ∧ Hid (l.take k = l'.take k)) (fun iv _ => n - (intOf iv).toNat)
    case atStart => exact ⟨0, 0, Nat.zero_le _, rfl, rfl, rfl⟩
    case round =>
      obtain ⟨k, q, hk, rfl, HQ, HT⟩ := hrel
      by_cases hlt : k < n
      · obtain ⟨a, ha⟩ : ∃ a, l[k]? = some a := ⟨l[k]'(by rw [← HN.out]; exact hlt), List.getElem?_eq_getElem _⟩
        obtain ⟨b, hb⟩ : ∃ a, l'[k]? = some a := ⟨l'[k]'(by rw [← HM.out]; exact hlt), List.getElem?_eq_getElem _⟩
        have h9 : Ps wr A l := by rw [HQ.out]; exact h
        have h9' : Ps wr B l' := by rw [HQ.out]; exact h'
        obtain ⟨ad, A1, A2, c1, c2, rfl, had, a0, a1, a2, HA1, HA2⟩ := h9.at_ ha
        obtain ⟨bd, B1, B2, d1, d2, rfl, hbd, b0, b1, b2, HB1, HB2⟩ := h9'.at_ hb
        have fa := HF.out _ (List.mem_of_getElem? ha)
        have fb := HF'.out _ (List.mem_of_getElem? hb)
        obtain ⟨x1, x2, t⟩ := a
        obtain ⟨y1, y2, u⟩ := b
        dsimp only at a0 a1 a2 b0 b1 b2
        obtain ⟨r1, hr1⟩ : ∃ r, sameA x1 y1 = r := ⟨_, rfl⟩
        obtain ⟨r2, hr2⟩ : ∃ r, sameA x2 y2 = r := ⟨_, rfl⟩
        have C1 : Hid (∀ (X Y : Value) (j : Nat), X = .slice A1 x1.length c1 → Y = .slice B1 y1.length d1 → Calls Tryd.prog 16 #[X, Y] (wr.drewN j) fun e w' => e = .returned (.bool r1) ∧ ∃ i, w' = (wr.drewN j).drewN i) := fun X Y j eX eY => by subst eX; subst eY; exact hr1 ▸ sameAtoms_any (HA1.dn j) (HB1.dn j) rfl rfl fa.1 fb.1
        have C2 : Hid (∀ (X Y : Value) (j : Nat), X = .slice A2 x2.length c2 → Y = .slice B2 y2.length d2 → Calls Tryd.prog 16 #[X, Y] (wr.drewN j) fun e w' => e = .returned (.bool r2) ∧ ∃ i, w' = (wr.drewN j).drewN i) := fun X Y j eX eY => by subst eX; subst eY; exact hr2 ▸ sameAtoms_any (HA2.dn j) (HB2.dn j) rfl rfl fa.2 fb.2
        have k0 : (0 : Int) ≤ (k : Int) := by omega
        have k1 : (k : Int) < (n : Int) := by omega
        have HD : Hid ((x1, x2, t) ≠ (y1, y2, u) → sameP l l' = false) := fun he => decide_eq_false (fun e => he (by rw [e, hb] at ha; exact (Option.some.inj ha).symm))
        have HT2 : Hid ((x1, x2, t) = (y1, y2, u) → l.take (k + 1) = l'.take (k + 1)) := fun he => take_moreA ha (by rw [hb, he]) HT.out
        have HE1 : Hid (x1 = y1 ↔ r1 = true) := by unfold Hid; rw [← hr1]; unfold sameA; rw [decide_eq_true_eq]
        have HE2 : Hid (x2 = y2 ↔ r2 = true) := by unfold Hid; rw [← hr2]; unfold sameA; rw [decide_eq_true_eq]
        clear ha hb h9 h9' hr1 hr2 HA1 HA2 HB1 HB2 fa fb had hbd
        by_cases ht : t = u
        · have s1 : (t.toList == u.toList) = true := by rw [ht]; simp
          have s2 : (t.toList != u.toList) = false := by rw [bne, s1]; rfl
          have HTU := khide ht
          clear ht
          cases r1 with
          | false =>
            have HV : Hid (sameP l l' = false) := HD.out (fun e => by injection e with e1 _; exact absurd (HE1.out.1 e1) (by simp))
            go_wp2_with fail
            go_quiet (first | (go_at_call 16; first | exact Calls.quiet_of (C1.out _ _ _ (by rfl) (by rfl)) | exact Calls.quiet_of (C2.out _ _ _ (by rfl) (by rfl))) | fail)
            go_wp2
            go_ret
            exact ⟨ybool HV.out.symm, ydrew_more HQ⟩
          | true =>
            cases r2 with
            | false =>
              have HV : Hid (sameP l l' = false) := HD.out (fun e => by injection e with _ e1; injection e1 with e1 _; exact absurd (HE2.out.1 e1) (by simp))
              go_wp2_with fail
              go_quiet (first | (go_at_call 16; first | exact Calls.quiet_of (C1.out _ _ _ (by rfl) (by rfl)) | exact Calls.quiet_of (C2.out _ _ _ (by rfl) (by rfl))) | fail)
              go_wp2
              go_ret
              exact ⟨ybool HV.out.symm, ydrew_more HQ⟩
            | true =>
              have HV : Hid (l.take (k + 1) = l'.take (k + 1)) := HT2.out (by rw [HE1.out.2 rfl, HE2.out.2 rfl, HTU.out])
              go_wp2_with fail
              go_quiet (first | (go_at_call 16; first | exact Calls.quiet_of (C1.out _ _ _ (by rfl) (by rfl)) | exact Calls.quiet_of (C2.out _ _ _ (by rfl) (by rfl))) | fail)
              go_wp2
              go_roundw
              case rel =>
                obtain ⟨q2, hq2⟩ := ydrew_more HQ
                exact ⟨k + 1, q2, by omega, by go_num, hq2, HV⟩
              case measure => simp [intOf]; omega
        · have s1 : (t.toList == u.toList) = false := str_ne ht
          have s2 : (t.toList != u.toList) = true := by rw [bne, s1]; rfl
          have HV : Hid (sameP l l' = false) := HD.out (fun e => by injection e with _ e1; injection e1 with _ e1; exact ht e1)
          clear ht
          go_wp2_with fail
          go_quiet (first | (go_at_call 16; first | exact Calls.quiet_of (C1.out _ _ _ (by rfl) (by rfl)) | exact Calls.quiet_of (C2.out _ _ _ (by rfl) (by rfl))) | fail)
          go_wp2
          go_ret
          exact ⟨ybool HV.out.symm, ydrew_more HQ⟩
      · obtain rfl : k = n := by omega
        go_wp2
        go_ret
        refine ⟨ybool (Eq.symm (decide_eq_true ?_)), q, HQ.out⟩
        have h3 := HT.out
        rwa [List.take_of_length_le (by rw [← HN.out]; exact Nat.le_refl _), List.take_of_length_le (by rw [← HM.out]; exact Nat.le_refl _)] at h3
  · have d1 : ((n : Int) == (m : Int)) = false := by rw [beq_eq_false_iff_ne]; omega
    have HD : Hid (sameP l l' = false) := decide_eq_false (fun e => hnm (by rw [hn, hm, e]))
    clear hnm hn hm
    go_enter Tryd.func8, Tryd.ntmps8
    go_wp2
    go_ret
    exact ⟨ybool HD.out.symm, 0, rfl⟩
end Go.Proofs.YthdpojkeceoiiaaDoor
end

section
/- slices.Equal of atoms, unit.isSame, slices.EqualFunc of parts. Conditions: lists that fit. -/
open Go.RowKit
set_option maxRecDepth 100000
namespace Go.Proofs.YthdpojkeceoiiaaDoor
/-- Is p, whose number is as it stands, just q? -/
def sameQ (p q : QL) : Bool := goodB p.2.2 && (decide (val W32 p.2.2 = val W32 q.2.2) && (sameA p.1 q.1 && sameA p.2.1 q.2.1))
theorem cmpI_b (a b : Nat) : (cmpI a b == 0) = decide (a = b) := by
  by_cases h : a = b
  · rw [cmpI_eq h, decide_eq_true h]; rfl
  · have := cmpI_ne h
    rw [decide_eq_false h]
    simpa [bne] using this
def LenQ (q : QL) : Prop := q.1.length ≤ 1000000 ∧ q.2.1.length ≤ 1000000
section
variable {w : World} {p q : QL}
end
/-- Alike, part by part. -/
def sameQs : List QL → List QL → Bool
  | [], [] => true
  | p :: ps, q :: qs => sameQ p q && sameQs ps qs
  | _, _ => false
theorem sameQs_len : ∀ {ps qs : List QL}, sameQs ps qs = true → ps.length = qs.length
  | [], [], _ => rfl
  | p :: ps, q :: qs, h => by
    unfold sameQs at h
    simp only [Bool.and_eq_true] at h
    rw [List.length_cons, List.length_cons, sameQs_len h.2]
theorem sameQs_take : ∀ {ps qs : List QL} {k : Nat} {p q : QL}, ps[k]? = some p → qs[k]? = some q → sameQs (ps.take (k + 1)) (qs.take (k + 1)) = (sameQs (ps.take k) (qs.take k) && sameQ p q)
  | [], _, k, p, q, h, _ => by simp at h
  | _ :: _, [], k, p, q, _, h => by simp at h
  | a :: ps, b :: qs, 0, p, q, h, h' => by
    simp at h h'
    subst h; subst h'
    simp [sameQs]
  | a :: ps, b :: qs, k + 1, p, q, h, h' => by
    have ih := sameQs_take (ps := ps) (qs := qs) (k := k) (p := p) (q := q) (by simpa using h) (by simpa using h')
    simp only [List.take_succ_cons] at ih ⊢
    unfold sameQs
    rw [ih, Bool.and_assoc]
theorem sameQs_bad : ∀ {ps qs : List QL} {k : Nat} {p q : QL}, ps[k]? = some p → qs[k]? = some q → sameQ p q = false → sameQs ps qs = false
  | [], _, k, p, q, h, _, _ => by simp at h
  | _ :: _, [], k, p, q, _, h, _ => by simp at h
  | a :: ps, b :: qs, 0, p, q, h, h', hb => by
    simp at h h'
    subst h; subst h'
    unfold sameQs
    rw [hb]; rfl
  | a :: ps, b :: qs, k + 1, p, q, h, h', hb => by
    unfold sameQs
    rw [sameQs_bad (ps := ps) (qs := qs) (k := k) (by simpa using h) (by simpa using h') hb, Bool.and_false]
end Go.Proofs.YthdpojkeceoiiaaDoor
end

section
/- Sizes of units' texts; what Good says. No conditions. -/
open Go.RowKit
set_option maxRecDepth 100000
namespace Go.Proofs.YthdpojkeceoiiaaDoor
theorem glue_bound {m : Nat} : ∀ (ls : List (List UInt8)), (∀ x ∈ ls, x.length ≤ m) → (glue (45 : UInt8) ls).length ≤ ls.length * (m + 1)
  | [], _ => Nat.zero_le _
  | [x], h => by
    have := h x (by simp)
    show x.length ≤ 1 * (m + 1)
    omega
  | x :: y :: ls, h => by
    have h1 := glue_bound (y :: ls) (fun z hz => h z (by simp [hz]))
    have h2 := h x (by simp)
    rw [glue_cons x (by simp), List.length_append, List.length_cons]
    rw [List.length_cons (a := x), Nat.add_mul]
    omega
theorem showB_size (p n : ByteArray) (k : Int) : (showB p n k).size ≤ p.size + n.size + 10 := by
  unfold showB
  split
  · exact Nat.zero_le _
  · split
    · rw [ByteArray.size_append]; omega
    · rename_i h1 h2
      have h3 := pwB_size k.toNat (by omega) (by omega)
      have h4 : (joinS [pwB k.toNat, p ++ n]).size = (glue 45 ([pwB k.toNat, p ++ n].map (·.data.toList))).length := by
        unfold joinS
        rw [Lib.size_eq]
      rw [h4, glue_two, ByteArray.size_append]
      omega
theorem decL_short {m : Nat} (h : m < W32 ^ 3) : (nuT m).size ≤ 30 := by
  have := dt_le (m := m) (k := 30) (Nat.lt_trans h (by decide)) (by decide)
  rw [Lib.size_eq]
  exact this
/-- Parts whose text is not long. -/
def SmallL (l : List AL) (m : Nat) : Prop := ∀ a ∈ l, a.1.size + a.2.1.size ≤ m
theorem showsA_small {l : List AL} {m : Nat} (h : SmallL l m) : ∀ x ∈ showsA l, x.size ≤ m + 10 := fun x hx => by
  unfold showsA at hx
  obtain ⟨a, ha, rfl⟩ := List.mem_map.1 hx
  have h1 := showB_size a.1 a.2.1 a.2.2
  have h2 := h a ha
  show (showB a.1 a.2.1 a.2.2).size ≤ m + 10
  omega
theorem partW_small {p : PL} {m k : Nat} (h : SmallL p.1 m) (h' : SmallL p.2.1 m) (ht : p.2.2.size ≤ m + 10) (hl : p.1.length + p.2.1.length ≤ k) : (∀ x ∈ partW p, x.size ≤ m + 10) ∧ (partW p).length ≤ k + 2 := by
  have h1 := showsA_small h
  have h2 := showsA_small h'
  have h3 : perB.size ≤ m + 10 := by have : perB.size = 3 := rfl; omega
  have l1 := shows_len p.1
  have l2 := shows_len p.2.1
  unfold partW
  split
  · exact ⟨h1, by omega⟩
  · split
    · refine ⟨fun x hx => ?_, by simp; omega⟩
      simp only [List.mem_append, List.mem_singleton] at hx
      rcases hx with (hx | rfl) | hx
      · exact h1 x hx
      · exact h3
      · exact h2 x hx
    · refine ⟨fun x hx => ?_, by simp; omega⟩
      simp only [List.mem_append, List.mem_singleton] at hx
      rcases hx with ((hx | rfl) | rfl) | hx
      · exact h1 x hx
      · exact h3
      · exact ht
      · exact h2 x hx
theorem partS_small {p : PL} {m k : Nat} (h : SmallL p.1 m) (h' : SmallL p.2.1 m) (ht : p.2.2.size ≤ m + 10) (hl : p.1.length + p.2.1.length ≤ k) : (glue 45 ((partW p).map (·.data.toList))).length ≤ (k + 2) * (m + 11) := by
  obtain ⟨h1, h2⟩ := partW_small h h' ht hl
  have h3 := glue_bound (m := m + 10) ((partW p).map (·.data.toList)) (fun x hx => by
    obtain ⟨y, hy, rfl⟩ := List.mem_map.1 hx
    have := h1 y hy
    rw [Lib.size_eq] at this
    exact this)
  rw [List.length_map] at h3
  exact Nat.le_trans h3 (Nat.mul_le_mul_right _ h2)
theorem unitN_small {ps : List PL} {m : Nat} (h : ∀ p ∈ ps, (partS p).size ≤ m) : ∀ k, (unitN ps k).size ≤ k * (m + 5)
  | 0 => Nat.zero_le _
  | k + 1 => by
    have ih := unitN_small h k
    have h0 : ∀ x : ByteArray, x.size ≤ m → ((if 0 < k then unitN ps k ++ ⟨#[45, 97, 110, 100, 45]⟩ else unitN ps k) ++ x).size ≤ (k + 1) * (m + 5) := fun x hx => by
      rw [ByteArray.size_append, Nat.add_mul]
      by_cases h0 : 0 < k
      · rw [if_pos h0, ByteArray.size_append]
        have h2 : (⟨#[45, 97, 110, 100, 45]⟩ : ByteArray).size = 5 := rfl
        omega
      · rw [if_neg h0]; omega
    cases e : ps[k]? with
    | none =>
      have e2 : unitN ps (k + 1) = (if 0 < k then unitN ps k ++ ⟨#[45, 97, 110, 100, 45]⟩ else unitN ps k) ++ ⟨#[]⟩ := by rw [unitN, e]
      rw [e2]
      exact h0 _ (Nat.zero_le _)
    | some p =>
      have e2 : unitN ps (k + 1) = (if 0 < k then unitN ps k ++ ⟨#[45, 97, 110, 100, 45]⟩ else unitN ps k) ++ partS p := by rw [unitN, e]
      rw [e2]
      exact h0 _ (h p (List.mem_of_getElem? e))
theorem partS_eq (p : PL) : (partS p).size = (glue 45 ((partW p).map (·.data.toList))).length := by
  unfold partS joinS
  rw [Lib.size_eq]
/-- A part that is not too great has a text that fits. -/
theorem great_fit {q : QL} (hg : greatQ q = false) (hw : Good32 q.2.2) : FitP (toP q) ∧ (partS (toP q)).size ≤ 2670 := by
  unfold greatQ at hg
  simp only [Bool.or_eq_false_iff, decide_eq_false_iff_not] at hg
  obtain ⟨g1, g2, g3, g4⟩ := hg
  have s1 : SmallL q.1 256 := fun a ha => by
    have := List.any_eq_false.1 g3 a ha
    unfold longA at this
    simp only [decide_eq_true_eq] at this
    omega
  have s2 : SmallL q.2.1 256 := fun a ha => by
    have := List.any_eq_false.1 g4 a ha
    unfold longA at this
    simp only [decide_eq_true_eq] at this
    omega
  have hv : val W32 q.2.2 < W32 ^ 3 := Nat.lt_of_lt_of_le (val_lt _ hw) (Nat.pow_le_pow_right (by decide) (by omega))
  have ht : (toP q).2.2.size ≤ 256 + 10 := by
    have := decL_short hv
    show (nuT (val W32 q.2.2)).size ≤ _
    omega
  have hs := partS_small (p := toP q) (m := 256) (k := 8) s1 s2 ht (by show q.1.length + q.2.1.length ≤ 8; omega)
  refine ⟨⟨⟨?_, ?_⟩, ⟨?_, ?_⟩, by omega⟩, by rw [partS_eq]; omega⟩
  · show q.1.length ≤ 1000; omega
  · intro a ha; have := s1 a ha; omega
  · show q.2.1.length ≤ 1000; omega
  · intro a ha; have := s2 a ha; omega
/-- May the unit of these parts be? -/
def goodU (names ps : List ByteArray) (qs : List QL) : Bool := decide (qs.length ≤ 4) && (!(qs.any greatQ) && (match unitD names ps (unitS (qs.map toP)) with
  | .error _ => false
  | .ok r => sameQs qs (r.map ofP)))
theorem Qs.putg {W : World} {g p i : Nat} {qs : List QL} {A' : Option Addr} {n c : Nat} (h : Qs W (some ⟨g, 0, none⟩) qs) (hne : p ≠ g) (hc : W.cell? ⟨p, i, none⟩ = some (.slice A' n c)) (u : Value) : Qs (W.setCell ⟨p, i, none⟩ u) (some ⟨g, 0, none⟩) qs := fun h0 => by
  obtain ⟨ad, e, hb, hx⟩ := h.out h0
  injection e with e
  subst e
  have hz : (W.setCell ⟨p, i, none⟩ u).heap.size = W.heap.size := by simp [World.setCell]
  refine ⟨_, rfl, by rw [hz]; exact hb, fun j q hj => ?_⟩
  obtain ⟨v1, v2, v3, k1, k2, k3, k4⟩ := hx j q hj
  have hf : ∀ j, (W.setCell ⟨p, i, none⟩ u).cell? ((⟨g, 0, none⟩ : Addr).add j) = W.cell? ((⟨g, 0, none⟩ : Addr).add j) := fun j => World.cell?_setCell_far _ _ _ _ (by rw [yblock_add]; exact hne)
  have h4 : Q1 W v1 v2 v3 q := k4
  have h5 := (h4.setn hc u).out
  exact ⟨v1, v2, v3, (hf _).trans k1, (hf _).trans k2, (hf _).trans k3, h5⟩
end Go.Proofs.YthdpojkeceoiiaaDoor
end

section
/- unit.Good. Conditions: lists that fit. -/
open Go.RowKit
set_option maxRecDepth 100000
namespace Go.Proofs.YthdpojkeceoiiaaDoor
theorem Bel.putq {w W : World} (h : Bel w W) {p i : Nat} (hp : w.heap.size ≤ p) (u : Value) : Bel w (W.setCell ⟨p, i, none⟩ u) := Below.setCell h hp u
theorem At.putq {W : World} {p : Nat} {v : Value} (h : At W p [v]) (u : Value) : At (W.setCell ⟨p, 0, none⟩ u) p [u] := h.put (i := 0) (by simp) u
section
variable {A B C : Option Addr} {n c m d z e : Nat} {qs : List QL} {names ps : List ByteArray} {w : World}
end
end Go.Proofs.YthdpojkeceoiiaaDoor
end

section
/- unit.Good of any unit; the law's names; that the law is awake. Conditions: lists that fit. -/
open Go.RowKit
set_option maxRecDepth 100000
namespace Go.Proofs.YthdpojkeceoiiaaDoor
theorem unitD_ok {names ps : List ByteArray} {s : ByteArray} {r : List PL} (h : unitD names ps s = .ok r) : s.size ≤ 256 ∧ goodAll (pcs s) = true ∧ partsL names ps (cutBy andB (pcs s)) = some r ∧ r.length ≤ 4 := by
  unfold unitD at h
  by_cases h1 : 256 < s.size
  · rw [if_pos h1] at h; cases h
  · rw [if_neg h1] at h
    by_cases h2 : goodAll (pcs s) = false
    · rw [if_pos h2] at h; cases h
    · rw [if_neg h2] at h
      by_cases h3 : 4 < (cutBy andB (pcs s)).length
      · rw [if_pos h3] at h; cases h
      · rw [if_neg h3] at h
        cases h4 : partsL names ps (cutBy andB (pcs s)) with
        | none => rw [h4] at h; cases h
        | some r' =>
          rw [h4] at h
          injection h with h
          subst h
          have := partsL_len h4
          exact ⟨by omega, by simpa using h2, rfl, by omega⟩
theorem unitD_err {names ps : List ByteArray} {s : ByteArray} {v : Int} (h : unitD names ps s = .error v) : v = 11 ∨ v = 2 := by
  unfold unitD at h
  by_cases h1 : 256 < s.size
  · rw [if_pos h1] at h; injection h with h; exact .inl h.symm
  · rw [if_neg h1] at h
    by_cases h2 : goodAll (pcs s) = false
    · rw [if_pos h2] at h; injection h with h; exact .inr h.symm
    · rw [if_neg h2] at h
      by_cases h3 : 4 < (cutBy andB (pcs s)).length
      · rw [if_pos h3] at h; injection h with h; exact .inr h.symm
      · rw [if_neg h3] at h
        cases h4 : partsL names ps (cutBy andB (pcs s)) with
        | none => rw [h4] at h; injection h with h; exact .inr h.symm
        | some r' => rw [h4] at h; cases h
section
variable {A B C : Option Addr} {n c m d z e : Nat} {qs : List QL} {names ps : List ByteArray} {w : World}
theorem great_show (h : Qs w C qs) (hz : z = qs.length) (hz4 : z ≤ 4) (hg : qs.any greatQ = false) (hw : ∀ q ∈ qs, Good32 q.2.2) : Calls Tryd.prog 7 #[.agg #[.slice C z e]] w (StrR w (unitS (qs.map toP))) := by
  have hg' : ∀ q ∈ qs, greatQ q = false := fun q hq => by simpa using List.any_eq_false.1 hg q hq
  refine ushow_any h hz (by omega) (fun q hq => (great_fit (hg' q hq) (hw q hq)).1) ?_
  have h1 := unitN_small (ps := qs.map toP) (m := 2670) (fun p hp => by
    obtain ⟨q, hq, rfl⟩ := List.mem_map.1 hp
    exact (great_fit (hg' q hq) (hw q hq)).2) (qs.map toP).length
  show (unitN (qs.map toP) (qs.map toP).length).size ≤ _
  rw [List.length_map] at h1 ⊢
  have h2 : qs.length * (2670 + 5) ≤ 4 * (2670 + 5) := Nat.mul_le_mul_right _ (by omega)
  omega
end
/-- meter, second, gram; kilo, milli. -/
def secB : ByteArray := ⟨#[115, 101, 99, 111, 110, 100]⟩
def graB : ByteArray := ⟨#[103, 114, 97, 109]⟩
def milB : ByteArray := ⟨#[109, 105, 108, 108, 105]⟩
def uN : List ByteArray := [meB, secB, graB]
def uP : List ByteArray := [kiloB, milB]
def SomeU (W : World) (e : Ending) (w' : World) : Prop := ∃ A B, e = .returned (.agg #[.slice A 3 3, .slice B 2 2]) ∧ Ss w' A uN ∧ Ss w' B uP ∧ Bel W w'
set_option maxHeartbeats 2000000 in
theorem some10_h (w : World) : Calls Tryd.prog 6 #[] w (SomeU w) := by
  obtain ⟨W1, hW1⟩ : ∃ X, X = w.alloc (.cells #[.slice none 0 0, .slice none 0 0] 31) := ⟨_, rfl⟩
  have HA : At W1 w.heap.size [.slice none 0 0, .slice none 0 0] := by rw [hW1]; exact at_new0 _ _ _
  have HB : Bel w W1 := by rw [hW1]; exact (Bel.refl w).al _
  have HW := khide hW1
  clear hW1
  go_enter Tryd.func6, Tryd.ntmps6
  go_upto_region 1 with fail
  rw [← HW.out]
  obtain ⟨q, hq⟩ : ∃ p, p = w.heap.size := ⟨_, rfl⟩
  have HQ : Hid (w.heap.size ≤ q) := by unfold Hid; omega
  rw [← hq] at HA ⊢
  clear HW hq
  have hr_0 := HA.c0; have hr_1 := HA.c1; have hr_l := HA.lt; have hr_f0 := HA.f0; have hr_f1 := HA.f1
  go_wp2_with fail
  refine bodyPost_ret (v := .agg #[.slice (some ⟨W1.heap.size, 0, none⟩) 3 3, .slice (some ⟨W1.heap.size + 1, 0, none⟩) 2 2]) (by simp [results, Tryd.results6, go_sem, hr_0, hr_1, hr_l]) rfl ⟨_, _, rfl, ?_, ?_, ?_⟩
  · exact ss_at ((at_size (at_new0 _ (uN.map Value.string) 9) (by simp [World.setCell])).al _)
  · exact ss_at (at_size (at_new0 _ (uP.map Value.string) 9) (by simp [World.setCell]))
  · exact ((Below.setCell (Below.setCell HB HQ.out _) HQ.out _).alloc (by have := HB.size; simpa [World.setCell] using this) _).alloc (by have := HB.size; simp [World.setCell]; omega) _
def mpsB : ByteArray := ⟨#[109, 101, 116, 101, 114, 45, 112, 101, 114, 45, 115, 101, 99, 111, 110, 100]⟩
def mpsP : PL := ([(⟨#[]⟩, meB, 1)], [(⟨#[]⟩, secB, 1)], oneB)
theorem mps_D : unitD uN uP mpsB = .ok [mpsP] := by
  have h : (match unitD uN uP mpsB with | .ok r => decide (r = [mpsP]) | .error _ => false) = true := by decide +kernel
  cases h2 : unitD uN uP mpsB with
  | error v => rw [h2] at h; cases h
  | ok r => rw [h2] at h; rw [of_decide_eq_true h]
theorem mps_S : unitS [mpsP] = mpsB := by decide +kernel
theorem mps_T : toP (ofP mpsP) = mpsP := toP_ofP oneB_num
theorem mps_G : greatQ (ofP mpsP) = false := by
  have h3 : (digs W32 (nuOf oneB)).length ≤ 3 := by rw [nuOf_one]; exact dl_le (by decide)
  unfold greatQ
  rw [show decide (3 < (ofP mpsP).2.2.length) = false from decide_eq_false (by show ¬ 3 < (digs W32 (nuOf oneB)).length; omega)]
  decide +kernel
theorem digs_good (v : Nat) : Good32 (digs W32 v) := digs_lt (by decide) v
end Go.Proofs.YthdpojkeceoiiaaDoor
end

section
/- The law is awake. No conditions. -/
open Go.RowKit
set_option maxRecDepth 100000
namespace Go.Proofs.YthdpojkeceoiiaaDoor
theorem dl_one : dl 1 = 1 := by decide +kernel
theorem nuT_one_data : oneB.data.toList = decL 1 := by decide +kernel
/-- What Parse comes to at the law's own text. -/
def MpsR (W : World) (e : Ending) (w' : World) : Prop := ∃ g c A1 c1 A2 c2 A3 c3, e = .returned (.tuple #[.agg #[.slice (some ⟨g, 0, none⟩) 1 c], .int .i64 0]) ∧ g < w'.heap.size ∧ w'.cell? ⟨g, 0, none⟩ = some (.slice A1 1 c1) ∧ w'.cell? ⟨g, 1, none⟩ = some (.slice A2 1 c2) ∧ w'.cell? ⟨g, 2, none⟩ = some (.slice A3 1 c3) ∧ Qs w' (some ⟨g, 0, none⟩) [ofP mpsP] ∧ Nm w' A3 1 c3 1 ∧ Bel W w'
theorem mps_parse {A B : Option Addr} {w : World} (h : Ss w A uN) (h' : Ss w B uP) : Calls Tryd.prog 5 #[.agg #[.slice A 3 3, .slice B 2 2], .string mpsB] w (MpsR w) := by
  refine (uparse_any h rfl (by decide) h' rfl (by decide)).mono fun e w' hr => ?_
  rw [mps_D] at hr
  obtain ⟨g, c, h1, h2, h3, h4, h5⟩ := hr
  obtain ⟨ad, v1, v2, v3, e0, hb, a0, a1, a2, hq⟩ := h4.at_ (k := 0) rfl
  injection e0 with e0
  subst e0
  obtain ⟨A1, c1, A2, c2, A3, c3, rfl, rfl, rfl, b1, b2, b3, b4, r1, r2, r3, r4, r5⟩ := hq.open_
  have e2 : (digs W32 (nuOf oneB)) = [1] := by rw [nuOf_one]; decide +kernel
  have e3 : (ofP mpsP).2.2 = [1] := e2
  rw [e3] at a2 r3
  exact ⟨g, c, A1, c1, A2, c2, A3, c3, h1, hb, a0, a1, a2, h4, r3, h5⟩
theorem mps_show {w : World} {g c : Nat} (h : Qs w (some ⟨g, 0, none⟩) [ofP mpsP]) : Calls Tryd.prog 7 #[.agg #[.slice (some ⟨g, 0, none⟩) 1 c]] w (StrR w mpsB) := by
  have h1 := great_show (e := c) h rfl (by decide) (show [ofP mpsP].any greatQ = false by rw [List.any_cons, mps_G]; rfl) (fun q hq => by
    rw [List.mem_singleton] at hq
    subst hq
    exact digs_good _)
  have e : unitS ([ofP mpsP].map toP) = mpsB := by rw [show [ofP mpsP].map toP = [mpsP] from by rw [List.map_cons, mps_T]; rfl, mps_S]
  rwa [e] at h1
set_option maxHeartbeats 4000000 in
theorem awake10_h (w : World) : Calls Tryd.prog 4 #[] w (RetB w true) := by
  have CM : Hid (∀ W : World, Calls Tryd.prog 6 #[] W (SomeU W)) := some10_h
  have CP : Hid (∀ (W : World) (A B : Option Addr), Ss W A uN → Ss W B uP → Calls Tryd.prog 5 #[.agg #[.slice A 3 3, .slice B 2 2], .string ⟨#[109, 101, 116, 101, 114, 45, 112, 101, 114, 45, 115, 101, 99, 111, 110, 100]⟩] W (MpsR W)) := fun W A B h h' => mps_parse h h'
  have CS : Hid (∀ (W : World) (g c : Nat), Qs W (some ⟨g, 0, none⟩) [ofP mpsP] → Calls Tryd.prog 7 #[.agg #[.slice (some ⟨g, 0, none⟩) 1 c]] W (StrR W ⟨#[109, 101, 116, 101, 114, 45, 112, 101, 114, 45, 115, 101, 99, 111, 110, 100]⟩)) := fun W g c h => mps_show h
  have CT : Hid (∀ (W : World) (A : Option Addr) (c : Nat), Nm W A 1 c 1 → Calls Tryd.prog 10 #[.agg #[.slice A 1 c]] W (TextR W ⟨#[49]⟩)) := fun W A c h => text_r h nuT_one_data
  go_enter Tryd.func4, Tryd.ntmps4
  go_upto_region 2 with (first | (go_at_call 6; (with_reducible refine (CM.out _).mono ?_); rintro e w2 ⟨A, B, rfl, HN, HP, hb2⟩) | (go_at_call 5; (with_reducible refine (CP.out _ _ _ HN HP).mono ?_); rintro e w3 ⟨g, c, A1, c1, A2, c2, A3, c3, rfl, hg, a0, a1, a2, HQ, HT, hb3⟩) | fail)
  refine kwp_named ?_
  intro W4 hW4
  have HB : Bel w W4 := by rw [hW4]; exact (hb2.up hb3.hid).al _
  have HX : At W4 w3.heap.size [.slice (some ⟨g, 0, none⟩) 1 c] := by rw [hW4]; exact at_new0 _ _ _
  replace HQ : Qs W4 (some ⟨g, 0, none⟩) [ofP mpsP] := by rw [hW4]; exact HQ.al _
  replace HT : Nm W4 A3 1 c3 1 := by rw [hW4]; exact HT.al _
  have HG : Hid (∀ j v, w3.cell? ⟨g, j, none⟩ = some v → W4.cell? ⟨g, j, none⟩ = some v) := fun j v h => by rw [hW4]; exact (World.cell?_alloc_lt _ _ (⟨g, j, none⟩ : Addr) hg).trans h
  replace a0 := HG.out _ _ a0; replace a1 := HG.out _ _ a1; replace a2 := HG.out _ _ a2
  replace hg : g < W4.heap.size := by rw [hW4]; simp; omega
  obtain ⟨p, hp⟩ : ∃ p, p = w3.heap.size := ⟨_, rfl⟩
  rw [← hp] at HX
  rw [← hp]
  clear hW4 hp hb2 hb3 HN HP HG
  have hx_0 := HX.c0; have hx_l := HX.lt
  go_wp2_with (first | (go_at_call 7; (with_reducible refine (CS.out _ _ _ HQ).mono ?_); rintro e w5 ⟨rfl, hb5⟩; clear hx_0 hx_l; replace HX := HX.up hb5; replace HB := HB.up hb5; replace HT := HT.up hb5; replace a0 := (hb5.out.cell (p := ⟨g, 0, none⟩) hg).trans a0; replace a1 := (hb5.out.cell (p := ⟨g, 1, none⟩) hg).trans a1; replace a2 := (hb5.out.cell (p := ⟨g, 2, none⟩) hg).trans a2; have hx_0 := HX.c0; have hx_l := HX.lt) | (go_at_call 10; (with_reducible refine (CT.out _ _ _ HT).mono ?_); rintro e w6 ⟨rfl, hb6⟩) | fail)
  go_ret
  exact ⟨rfl, HB.up hb6⟩
end Go.Proofs.YthdpojkeceoiiaaDoor
end
