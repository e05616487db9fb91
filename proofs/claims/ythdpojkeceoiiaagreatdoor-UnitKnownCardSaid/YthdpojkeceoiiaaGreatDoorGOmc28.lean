/- Several texts in one, each with its own sentence and conditions. -/
import Derived.Test.YthdpojkeceoiiaaGreatDoorJh
import Derived.Test.YthdpojkeceoiiaaGreatDoorGOmc20
section
/- unit.ShowPart of any part, unit.Show. Conditions: parts that fit. -/
open Go.RowKit
set_option maxRecDepth 100000
namespace Go.Proofs.YthdpojkeceoiiaaGreatDoor
def sepB : ByteArray := ⟨#[45, 97, 110, 100, 45]⟩
theorem pApp_of {w W1 : World} {A : Option Addr} {n c : Nat} {l : List AL} (h : Cs w A (cellsA l)) (hn : n = l.length) (hf : FitL l) (hb : Hid (Below w.heap.size w W1)) : PApp W1 A n c (showsA l) := fun W R z cp xs hB hz hzl ho =>
  appendShown_any hB (h.up hb) hn (by have := hf.1; omega) hz hzl ho hf.2
theorem shows_len (l : List AL) : (showsA l).length = l.length := List.length_map _
theorem ushow_part {w : World} {v1 v2 v3 : Value} {q : QL} (hq : Q1 w v1 v2 v3 q) (hf : FitP (toP q)) : Calls Tryz.prog 14 #[.agg #[v1, v2, v3]] w (StrR w (partS (toP q))) := by
  obtain ⟨A1, c1, A2, c2, A3, c3, rfl, rfl, rfl, b1, b2, b3, b4, r1, r2, r3, -, -⟩ := hq.open_
  obtain ⟨l1, l2, ws⟩ := q
  obtain ⟨f1, f2, f3⟩ := hf
  have e1 : (toP (l1, l2, ws)).1 = l1 := rfl
  have e2 : (toP (l1, l2, ws)).2.1 = l2 := rfl
  rw [e1] at f1
  rw [e2] at f2
  have C1 : ∀ W1, Hid (Below w.heap.size w W1) → PApp W1 A1 l1.length c1 (showsA l1) := fun W1 hb => pApp_of r1 rfl f1 hb
  have C2 : ∀ W1, Hid (Below w.heap.size w W1) → PApp W1 A2 l2.length c2 (showsA l2) := fun W1 hb => pApp_of r2 rfl f2 hb
  have L1 : (showsA l1).length ≤ 1000 := by rw [shows_len]; exact f1.1
  have L2 : (showsA l2).length ≤ 1000 := by rw [shows_len]; exact f2.1
  have HP : partW (toP (l1, l2, ws)) = if l2 = [] ∧ nuT (val W32 ws) = oneB then showsA l1 else if nuT (val W32 ws) = oneB then showsA l1 ++ [perB] ++ showsA l2 else showsA l1 ++ [perB] ++ [nuT (val W32 ws)] ++ showsA l2 := rfl
  unfold partS
  obtain ⟨zs, hzs⟩ : ∃ zs, partW (toP (l1, l2, ws)) = zs := ⟨_, rfl⟩
  rw [hzs] at HP f3 ⊢
  by_cases hv : val W32 ws = 1
  · have hv' := (nuT_one_iff _).2 hv
    by_cases hm : l2.length = 0
    · have h2 : l2 = [] := List.eq_nil_of_length_eq_zero hm
      rw [if_pos ⟨h2, hv'⟩] at HP
      exact ushow_a0 hv hm r3 C1 C2 L1 L2 (by rw [HP, h2]; exact (List.append_nil _).symm) f3 rfl
    · have h2 : l2 ≠ [] := fun e => hm (by rw [e]; rfl)
      rw [if_neg (fun k => h2 k.1), if_pos hv'] at HP
      exact ushow_a1 hv (Nat.pos_of_ne_zero hm) r3 C1 C2 L1 L2 HP f3 rfl
  · have hv' : nuT (val W32 ws) ≠ oneB := fun e => hv ((nuT_one_iff _).1 e)
    rw [if_neg (fun k => hv' k.2), if_neg hv'] at HP
    by_cases hm : l2.length = 0
    · exact ushow_b0 hv hm r3 C1 C2 L1 L2 HP f3 rfl
    · exact ushow_b1 hv (Nat.pos_of_ne_zero hm) r3 C1 C2 L1 L2 HP f3 rfl
theorem join_take {sep : List UInt8} {xs : List (List UInt8)} {k : Nat} {y : List UInt8} (h : xs[k]? = some y) : Lib.join (xs.take (k + 1)) sep = (if 0 < k then Lib.join (xs.take k) sep ++ sep else Lib.join (xs.take k) sep) ++ y := by
  cases xs with
  | nil => simp at h
  | cons x r =>
    cases k with
    | zero => simp at h; subst h; rw [if_neg (Nat.lt_irrefl 0)]; simp [Lib.join_one, Lib.join_nil]
    | succ k =>
      rw [if_pos (Nat.succ_pos _)]
      have h1 : r[k]? = some y := by simpa using h
      rw [List.take_succ_cons, List.take_succ_cons, Lib.join_cons, Lib.join_cons, Lib.joinTail_take_succ sep r k y h1]
      simp [List.append_assoc]
theorem unitN_join (ps : List PL) : ∀ k, k ≤ ps.length → (unitN ps k).data.toList = Lib.join (((ps.map partS).map (·.data.toList)).take k) sepB.data.toList
  | 0, _ => rfl
  | k + 1, hk => by
    have ih := unitN_join ps k (by omega)
    have hp : ps[k]? = some ps[k] := List.getElem?_eq_getElem (by omega)
    have h1 : ((ps.map partS).map (·.data.toList))[k]? = some (partS ps[k]).data.toList := by rw [List.getElem?_map, List.getElem?_map, hp]; rfl
    rw [join_take h1, unitN, hp, ← ih, app_data]
    by_cases h0 : 0 < k
    · rw [if_pos h0, if_pos h0, app_data]; rfl
    · rw [if_neg h0, if_neg h0]
theorem unitS_join (ps : List PL) : (unitS ps).data.toList = Lib.join ((ps.map partS).map (·.data.toList)) sepB.data.toList := by
  unfold unitS
  rw [unitN_join ps _ (Nat.le_refl _), List.take_of_length_le (by simp)]
theorem sjoin5_any {w : World} {A : Option Addr} {n c : Nat} {ps : List PL} (h : Ss w A (ps.map partS)) (hn : n = ps.length) (hc : n ≤ c) (hN : n ≤ 1000000) (hl : (unitS ps).size ≤ 140737488355328) :
    Calls Tryz.prog 28 #[.slice A n c, .string ⟨#[45, 97, 110, 100, 45]⟩] w (StrR w (unitS ps)) := by
  have hJ := unitS_join ps
  have e9 : unitS ps = ⟨(Lib.join ((ps.map partS).map (·.data.toList)) sepB.data.toList).toArray⟩ := by rw [← hJ]
  have hl2 : (Lib.join ((ps.map partS).map (·.data.toList)) sepB.data.toList).length ≤ 140737488355328 := by rw [← hJ]; rw [Lib.size_eq] at hl; exact hl
  obtain ⟨xs, hxs⟩ : ∃ xs, ps.map partS = xs := ⟨_, rfl⟩
  have hn2 : n = xs.length := by rw [← hxs, List.length_map]; exact hn
  rw [e9]
  rw [hxs] at h hl2 ⊢
  clear hJ e9 hl hn
  subst hn2
  cases xs with
  | nil =>
    refine (Tryz.strings_Join_none A c ⟨#[45, 97, 110, 100, 45]⟩ w).mono fun e w' ⟨he, hw⟩ => ⟨by rw [he]; rfl, by rw [hw]; exact Below.refl _ _⟩
  | cons x xs =>
    obtain ⟨ad, rfl, hb, hcell⟩ := h.out (by simp)
    have h0 := hcell 0 x rfl
    obtain ⟨b, o, hbo⟩ := plain_of h0
    rw [show ad.add 0 = ad by simp [Addr.add]] at hbo
    subst hbo
    have hcl : ∀ (j : Nat) y, (x :: xs)[j]? = some y → w.cell? ⟨b, o + j, none⟩ = some (.string y) := fun j y hj => by
      have h1 := hcell j y hj
      have e : (⟨b, o, none⟩ : Addr).add j = ⟨b, o + j, none⟩ := by unfold Addr.add; split <;> simp_all
      rwa [e] at h1
    have c1 := Tryz.strings_Join b o c (x :: xs) ⟨#[45, 97, 110, 100, 45]⟩ w hcl hb (by omega) hc hl2
    exact c1.mono fun e w' ⟨he, hw⟩ => ⟨he, hw⟩
/-- Block g is a row of n strings, of which the first are told, the rest empty. -/
def RowS (W : World) (g n : Nat) (xs : List ByteArray) : Prop := Hid (At W g (xs.map Value.string ++ List.replicate (n - xs.length) (.string ⟨#[]⟩)))
section
variable {W W' : World} {g n k : Nat} {xs : List ByteArray}
theorem RowS.up (h : RowS W g n xs) (hb : Hid (Below W.heap.size W W')) : RowS W' g n xs := h.out.up hb
theorem RowS.al (h : RowS W g n xs) (o : Obj) : RowS (W.alloc o) g n xs := h.out.al o
theorem RowS.lt (h : RowS W g n xs) : g < W.heap.size := h.out.lt
theorem RowS.zero (h : RowS W g n xs) (hl : xs.length = k) (hk : k < n) : W.cell? ⟨g, k, none⟩ = some (.string ⟨#[]⟩) ∧ W.frozen? ⟨g, k, none⟩ = false := by
  refine h.out.all k _ ?_
  rw [List.getElem?_append_right (by simp; omega), List.getElem?_replicate, if_pos (by simp; omega)]
theorem RowS.put (h : RowS W g n xs) (hl : xs.length = k) (hk : k < n) (s : ByteArray) : RowS (W.setCell ⟨g, k, none⟩ (.string s)) g n (xs ++ [s]) := by
  have h1 := h.out.put (i := k) (by simp; omega) (.string s)
  unfold RowS
  have e : (xs.map Value.string ++ List.replicate (n - xs.length) (Value.string ⟨#[]⟩)).set k (Value.string s) = (xs ++ [s]).map Value.string ++ List.replicate (n - (xs ++ [s]).length) (Value.string ⟨#[]⟩) := by
    rw [List.set_append_right _ _ (by simp; omega)]
    obtain ⟨d, hd⟩ : ∃ d, n - xs.length = d + 1 := ⟨n - xs.length - 1, by omega⟩
    rw [hd, List.length_map, hl, Nat.sub_self, List.replicate_succ, List.set_cons_zero, List.length_append, List.length_singleton, show n - (xs.length + 1) = d by omega]
    simp
  rw [← e]; exact h1
theorem RowS.ss (h : RowS W g n xs) (hl : xs.length = n) : Ss W (some ⟨g, 0, none⟩) xs := fun h0 => by
  refine ⟨_, rfl, h.out.lt, fun j x hj => ?_⟩
  rw [plain_add3]
  refine h.out.ci ?_
  rw [List.getElem?_append_left (by rw [List.length_map]; exact (List.getElem?_eq_some_iff.1 hj).1), List.getElem?_map, hj]; rfl
end
theorem make_strs (n : Nat) (hn : n ≤ 1000000) (w : World) : (Instr.makeSlice 23 (.int .i64 (n : Int)) (.int .i64 (n : Int))).run Tryz.prog w =
    .ok (.slice (some ⟨w.heap.size, 0, none⟩) n n) (w.alloc (.cells (madeCells #[.string ⟨#[]⟩] n) 9)) := by
  obtain ⟨i0, hi0, hz0, hz1, hz2⟩ := info_parts hinfoStr
  have h := run_make (P := Tryz.prog) w 23 9 i0 (.string ByteArray.empty) Tryz.underlying23 hi0 hz0 .i64 .i64 n n (by omega) (by omega) (by rw [hz2]; omega) (by omega)
  have e : (⟨#[]⟩ : ByteArray) = ByteArray.empty := rfl
  rw [e]
  simpa [hz1, Value.cells] using h
theorem made_strs (w : World) (n : Nat) (t : TypeId) : RowS (w.alloc (.cells (madeCells #[.string ⟨#[]⟩] n) t)) w.heap.size n [] := by
  have e : madeCells #[Value.string ⟨#[]⟩] n = (List.replicate n (Value.string ⟨#[]⟩)).toArray := by
    apply Array.ext
    · simp [size_madeCells]
    · intro i h1 h2
      simp [madeCells, Nat.mod_one]
  rw [e]
  exact at_new0 _ _ _
set_option maxHeartbeats 8000000 in
theorem ushow_any {A : Option Addr} {n c : Nat} {qs : List QL} {w : World} (h : Qs w A qs) (hn : n = qs.length) (hl : n ≤ 1000) (hf : ∀ q ∈ qs, FitP (toP q)) (hJ : (unitS (qs.map toP)).size ≤ 140737488355328) :
    Calls Tryz.prog 11 #[.agg #[.slice A n c]] w (StrR w (unitS (qs.map toP))) := by
  obtain ⟨W1, hW1⟩ : ∃ X, X = w.alloc (.cells #[.slice A n c] 26) := ⟨_, rfl⟩
  have HU : At W1 w.heap.size [.slice A n c] := by rw [hW1]; exact at_new0 _ _ _
  have HB : Bel w W1 := by rw [hW1]; exact (Bel.refl w).al _
  have HN := khide hn
  have HF := khide hf
  have CJ : Hid (∀ (W : World) (g : Nat), Ss W (some ⟨g, 0, none⟩) ((qs.map toP).map partS) → Calls Tryz.prog 28 #[.slice (some ⟨g, 0, none⟩) n n, .string ⟨#[45, 97, 110, 100, 45]⟩] W (StrR W (unitS (qs.map toP)))) := fun W g hs => sjoin5_any hs (by rw [List.length_map]; exact hn) (Nat.le_refl _) (by omega) hJ
  obtain ⟨S, hS⟩ : ∃ S, unitS (qs.map toP) = S := ⟨_, rfl⟩
  rw [hS] at CJ ⊢
  have hmk : ∀ W : World, (Instr.makeSlice 23 (.int .i64 (n : Int)) (.int .i64 (n : Int))).run Tryz.prog W = .ok (.slice (some ⟨W.heap.size, 0, none⟩) n n) (W.alloc (.cells (madeCells #[.string ⟨#[]⟩] n) 9)) := fun W => make_strs n (by omega) W
  have HW := khide hW1
  clear hW1 hn hf hJ hS
  have hu_0 := HU.c0; have hu_l := HU.lt
  go_enter Tryz.func11, Tryz.ntmps11
  go_upto_region 1 with fail
  rw [← HW.out]
  go_upto_region 2 with fail
  clear hu_0 hu_l
  refine kwp_named ?_
  intro W2 hW2
  have HP : RowS W2 W1.heap.size n [] := by rw [hW2]; exact made_strs _ _ _
  have HG : Hid (w.heap.size < W1.heap.size) := HU.lt
  replace HU : At W2 w.heap.size [.slice A n c] := by rw [hW2]; exact HU.al _
  replace HB : Bel w W2 := by rw [hW2]; exact HB.al _
  obtain ⟨g, hg⟩ : ∃ g, g = W1.heap.size := ⟨_, rfl⟩
  rw [← hg] at HP HG
  rw [← hg]
  clear hW2 hg hmk HW
  have hu_0 := HU.c0; have hu_l := HU.lt
  go_wp2_with fail
  clear hu_0 hu_l
  go_loopw [13] (fun iv wr => ∃ (k : Nat), k ≤ n ∧ iv = .int .i64 (k : Int) ∧ RowS wr g n (((qs.map toP).map partS).take k) ∧ Hid (Bel w wr)) (fun iv _ => n - (intOf iv).toNat)
  case atStart => exact ⟨0, Nat.zero_le _, rfl, HP, HB⟩
  case round =>
    clear HP HU HB
    obtain ⟨k, hk, rfl, HP, HB⟩ := hrel
    have LL : Hid (((qs.map toP).map partS).length = n) := by unfold Hid; rw [List.length_map, List.length_map, HN.out]
    by_cases hlt : k < n
    · obtain ⟨q, hq⟩ : ∃ q, qs[k]? = some q := ⟨qs[k]'(by rw [← HN.out]; exact hlt), List.getElem?_eq_getElem _⟩
      obtain ⟨ad, v1, v2, v3, rfl, had, a0, a1, a2, HQ⟩ := (h.up HB.out.hid).at_ hq
      have HX : Hid (((qs.map toP).map partS).take (k + 1) = ((qs.map toP).map partS).take k ++ [partS (toP q)]) := by
        have hx : k < ((qs.map toP).map partS).length := by rw [LL.out]; exact hlt
        unfold Hid
        rw [List.take_succ_eq_append_getElem hx]
        have e : ((qs.map toP).map partS)[k]? = some (partS (toP q)) := by rw [List.getElem?_map, List.getElem?_map, hq]; rfl
        rw [List.getElem?_eq_getElem hx] at e
        injection e with e
        rw [e]
      obtain ⟨s, hs⟩ : ∃ s, partS (toP q) = s := ⟨_, rfl⟩
      have CS : Hid (∀ W : World, Q1 W v1 v2 v3 q → Calls Tryz.prog 14 #[.agg #[v1, v2, v3]] W (StrR W s)) := fun W hQ => hs ▸ ushow_part hQ (HF.out q (List.mem_of_getElem? hq))
      obtain ⟨A1, c1, A2, c2, A3, c3, rfl, rfl, rfl, -⟩ := HQ.open_
      rw [hs] at HX
      have k0 : (0 : Int) ≤ (k : Int) := by omega
      have k1 : (k : Int) < (n : Int) := by omega
      have HG2 : Hid (g < wr.heap.size) := HP.lt
      have hpk : (((qs.map toP).map partS).take k).length = k := by rw [List.length_take, LL.out]; omega
      have HPK := khide hpk
      have HQa := fun o => HQ.al (W := wr) o
      have HQb := khide HQa
      clear hq hs HQa HQ hpk
      go_wp2_with (first | (go_at_call 14; (with_reducible refine (CS.out _ (HQb.out _)).mono ?_); rintro e w2 ⟨rfl, hb2⟩; replace HP := (HP.al _).up hb2; replace HB := khide ((HB.out.al _).up hb2); obtain ⟨z0, f0⟩ := HP.zero HPK.out hlt; have zl := HP.lt) | fail)
      have HP2 := HP.put HPK.out hlt s
      have HB2 : Hid (Bel w (w2.setCell ⟨g, k, none⟩ (.string s))) := Below.setCell HB.out (by have := HG.out; show w.heap.size ≤ g; omega) _
      go_roundw
      case rel =>
        refine ⟨k + 1, by omega, by go_num, ?_, HB2⟩
        rw [HX.out]
        exact HP2
      case measure => simp [intOf]; omega
    · obtain rfl : k = n := by omega
      have HS : Hid (Ss wr (some ⟨g, 0, none⟩) ((qs.map toP).map partS)) := by
        have h9 := HP
        rw [List.take_of_length_le (by rw [LL.out]; exact Nat.le_refl _)] at h9
        exact h9.ss LL.out
      go_wp2_with (first | (go_at_call 28; (with_reducible refine (CJ.out _ _ HS.out).mono ?_); rintro e w2 ⟨rfl, hb2⟩) | fail)
      go_ret
      exact ⟨rfl, (HB.out.up hb2)⟩
end Go.Proofs.YthdpojkeceoiiaaGreatDoor
end

section
/- unit.isLong, isTooGreat over slices.ContainsFunc. Conditions: atoms that fit. -/
open Go.RowKit
set_option maxRecDepth 100000
namespace Go.Proofs.YthdpojkeceoiiaaGreatDoor
def longA (a : AL) : Bool := decide (256 < a.1.size + a.2.1.size)
theorem retB_mk {W w' : World} {b : Bool} {e : Ending} (h : e = .returned (.bool b)) (hb : Bel W w') : RetB W b e w' := ⟨h, hb⟩
theorem ret_bool {a b : Bool} (h : a = b) : Ending.returned (.bool a) = .returned (.bool b) := by rw [h]
set_option maxHeartbeats 1000000 in
theorem isLong_any {p n : ByteArray} {k : Int} (hs : p.size + n.size ≤ 1000000000000000) (w : World) : Calls Tryz.prog 64 #[.agg #[.string p, .string n, .int .i64 k]] w (RetB w (longA (p, n, k))) := by
  obtain ⟨W1, hW1⟩ : ∃ X, X = w.alloc (.cells #[.string p, .string n, .int .i64 k] 59) := ⟨_, rfl⟩
  have HA : At W1 w.heap.size [.string p, .string n, .int .i64 k] := by rw [hW1]; exact at_new0 _ _ _
  have HB : Bel w W1 := by rw [hW1]; exact (Bel.refl w).al _
  have HW := khide hW1
  have HL : Hid (decide ((256 : Int) < (p.size : Int) + (n.size : Int)) = longA (p, n, k)) := by
    unfold Hid
    show decide ((256 : Int) < (p.size : Int) + (n.size : Int)) = decide (256 < p.size + n.size)
    exact decide_eq_decide.2 (by omega)
  have e1 : IntKind.i64.wrap ((p.size : Int) + (n.size : Int)) = (p.size : Int) + (n.size : Int) := by rw [IntKind.wrap_i64]; omega
  have ha_0 := HA.c0; have ha_1 := HA.c1; have ha_2 := HA.c2; have ha_l := HA.lt
  clear hW1
  go_enter Tryz.func64, Tryz.ntmps64
  go_upto_region 1 with fail
  rw [← HW.out]
  go_wp2
  go_ret
  exact ⟨ret_bool HL.out, HB⟩
def RetIx (W : World) (b : Bool) (e : Ending) (w' : World) : Prop := ∃ v : Int, e = .returned (.int .i64 v) ∧ Hid (decide (0 ≤ v) = b) ∧ Bel W w'
theorem any_take {α : Type} {l : List α} {p : α → Bool} {k : Nat} {a : α} (h : l[k]? = some a) : (l.take (k + 1)).any p = ((l.take k).any p || p a) := by
  obtain ⟨hk, he⟩ := List.getElem?_eq_some_iff.1 h
  rw [List.take_succ_eq_append_getElem hk, List.any_append, he]; simp
theorem any_hit {α : Type} {l : List α} {p : α → Bool} {k : Nat} {a : α} (h : l[k]? = some a) (hp : p a = true) : l.any p = true := List.any_eq_true.2 ⟨a, List.mem_of_getElem? h, hp⟩
set_option maxHeartbeats 4000000 in
theorem indexA_any {A : Option Addr} {n c : Nat} {l : List AL} {p : AL → Bool} {g : Nat} {w : World} (h : Cs w A (cellsA l)) (hn : n = l.length) (hl : n ≤ 1000000)
    (hk : ∀ a ∈ l, ∀ W : World, Calls Tryz.prog g #[.agg #[.string a.1, .string a.2.1, .int .i64 a.2.2]] W (RetB W (p a))) (hg : ∀ args W, (callFunc g args).run Tryz.prog W = .ok (.enter g args) W) :
    Calls Tryz.prog 93 #[.slice A n c, .func (.func g) #[] #[]] w (RetIx w (l.any p)) := by
  have HN := khide hn
  have CK := khide hk
  clear hn hk
  go_enter Tryz.func93, Tryz.ntmps93
  go_wp2
  go_loopw [8] (fun iv wr => ∃ k : Nat, k ≤ n ∧ iv = .int .i64 (k : Int) ∧ Hid ((l.take k).any p = false) ∧ Hid (Bel w wr)) (fun iv _ => n - (intOf iv).toNat)
  case atStart => exact ⟨0, Nat.zero_le _, rfl, rfl, Bel.refl w⟩
  case round =>
    obtain ⟨k, hk, rfl, HV, HB⟩ := hrel
    by_cases hlt : k < n
    · obtain ⟨a, ha⟩ : ∃ a, l[k]? = some a := ⟨l[k]'(by rw [← HN.out]; exact hlt), List.getElem?_eq_getElem _⟩
      obtain ⟨ad, rfl, had, a0, a1, a2⟩ := cs_at3 (h.up HB.out.hid) ha
      have CA : Hid (∀ W : World, Calls Tryz.prog g #[.agg #[.string a.1, .string a.2.1, .int .i64 a.2.2]] W (RetB W (p a))) := CK.out a (List.mem_of_getElem? ha)
      obtain ⟨b, hb⟩ : ∃ b, p a = b := ⟨_, rfl⟩
      have HX : Hid ((l.take (k + 1)).any p = b) := by rw [any_take ha, HV.out, hb]; rfl
      have HY : Hid (b = true → l.any p = true) := fun e => any_hit ha (hb.trans e)
      obtain ⟨x, y, z⟩ := a
      rw [hb] at CA
      have k0 : (0 : Int) ≤ (k : Int) := by omega
      have k1 : (k : Int) < (n : Int) := by omega
      clear ha hb
      cases b with
      | true =>
        go_wp2_with (first | (go_at_fn g; (with_reducible refine (CA.out _).mono ?_); rintro e w2 ⟨rfl, hb2⟩) | fail)
        go_ret
        refine ⟨_, rfl, ?_, HB.out.up hb2.hid⟩
        rw [HY.out (by trivial)]
        exact decide_eq_true (by omega)
      | false =>
        go_wp2_with (first | (go_at_fn g; (with_reducible refine (CA.out _).mono ?_); rintro e w2 ⟨rfl, hb2⟩) | fail)
        go_roundw
        case rel => exact ⟨k + 1, by omega, by go_num, HX, HB.out.up hb2.hid⟩
        case measure => simp [intOf]; omega
    · obtain rfl : k = n := by omega
      go_wp2
      go_ret
      refine ⟨-1, rfl, ?_, HB.out⟩
      have h9 := HV.out
      rw [List.take_of_length_le (by rw [← HN.out]; exact Nat.le_refl _)] at h9
      rw [h9]; rfl
set_option maxHeartbeats 1000000 in
theorem containsA_any {A : Option Addr} {n c : Nat} {l : List AL} {p : AL → Bool} {g : Nat} {w : World} (h : Cs w A (cellsA l)) (hn : n = l.length) (hl : n ≤ 1000000)
    (hk : ∀ a ∈ l, ∀ W : World, Calls Tryz.prog g #[.agg #[.string a.1, .string a.2.1, .int .i64 a.2.2]] W (RetB W (p a))) (hg : ∀ args W, (callFunc g args).run Tryz.prog W = .ok (.enter g args) W) :
    Calls Tryz.prog 63 #[.slice A n c, .func (.func g) #[] #[]] w (RetB w (l.any p)) := by
  have CI := khide (indexA_any (p := p) h hn hl hk hg (c := c))
  obtain ⟨b, hb⟩ : ∃ b, l.any p = b := ⟨_, rfl⟩
  rw [hb] at CI ⊢
  clear h hn hl hk hg hb
  go_enter Tryz.func63, Tryz.ntmps63
  go_wp2_with (first | (go_at_call 93; (with_reducible refine (CI.out).mono ?_); rintro e w2 ⟨v, rfl, hv, hb2⟩) | fail)
  go_ret
  exact ⟨ret_bool hv.out, hb2⟩
set_option maxHeartbeats 4000000 in
theorem indexQ_any {A : Option Addr} {n c : Nat} {l : List QL} {p : QL → Bool} {g : Nat} {w : World} (h : Qs w A l) (hn : n = l.length) (hl : n ≤ 1000000)
    (hk : ∀ a ∈ l, ∀ (W : World) (v1 v2 v3 : Value), Q1 W v1 v2 v3 a → Calls Tryz.prog g #[.agg #[v1, v2, v3]] W (RetB W (p a))) (hg : ∀ args W, (callFunc g args).run Tryz.prog W = .ok (.enter g args) W) :
    Calls Tryz.prog 62 #[.slice A n c, .func (.func g) #[] #[]] w (RetIx w (l.any p)) := by
  have HN := khide hn
  have CK := khide hk
  clear hn hk
  go_enter Tryz.func62, Tryz.ntmps62
  go_wp2
  go_loopw [8] (fun iv wr => ∃ k : Nat, k ≤ n ∧ iv = .int .i64 (k : Int) ∧ Hid ((l.take k).any p = false) ∧ Hid (Bel w wr)) (fun iv _ => n - (intOf iv).toNat)
  case atStart => exact ⟨0, Nat.zero_le _, rfl, rfl, Bel.refl w⟩
  case round =>
    obtain ⟨k, hk, rfl, HV, HB⟩ := hrel
    by_cases hlt : k < n
    · obtain ⟨a, ha⟩ : ∃ a, l[k]? = some a := ⟨l[k]'(by rw [← HN.out]; exact hlt), List.getElem?_eq_getElem _⟩
      obtain ⟨ad, v1, v2, v3, rfl, had, a0, a1, a2, HQ⟩ := (h.up HB.out.hid).at_ ha
      have CA : Hid (∀ W : World, Q1 W v1 v2 v3 a → Calls Tryz.prog g #[.agg #[v1, v2, v3]] W (RetB W (p a))) := fun W hq => CK.out a (List.mem_of_getElem? ha) W v1 v2 v3 hq
      obtain ⟨b, hb⟩ : ∃ b, p a = b := ⟨_, rfl⟩
      have HX : Hid ((l.take (k + 1)).any p = b) := by rw [any_take ha, HV.out, hb]; rfl
      have HY : Hid (b = true → l.any p = true) := fun e => any_hit ha (hb.trans e)
      obtain ⟨A1, c1, A2, c2, A3, c3, rfl, rfl, rfl, -⟩ := HQ.open_
      rw [hb] at CA
      have k0 : (0 : Int) ≤ (k : Int) := by omega
      have k1 : (k : Int) < (n : Int) := by omega
      clear ha hb
      cases b with
      | true =>
        go_wp2_with (first | (go_at_fn g; (with_reducible refine (CA.out _ HQ).mono ?_); rintro e w2 ⟨rfl, hb2⟩) | fail)
        go_ret
        refine ⟨_, rfl, ?_, HB.out.up hb2.hid⟩
        rw [HY.out (by trivial)]
        exact decide_eq_true (by omega)
      | false =>
        go_wp2_with (first | (go_at_fn g; (with_reducible refine (CA.out _ HQ).mono ?_); rintro e w2 ⟨rfl, hb2⟩) | fail)
        go_roundw
        case rel => exact ⟨k + 1, by omega, by go_num, HX, HB.out.up hb2.hid⟩
        case measure => simp [intOf]; omega
    · obtain rfl : k = n := by omega
      go_wp2
      go_ret
      refine ⟨-1, rfl, ?_, HB.out⟩
      have h9 := HV.out
      rw [List.take_of_length_le (by rw [← HN.out]; exact Nat.le_refl _)] at h9
      rw [h9]; rfl
set_option maxHeartbeats 1000000 in
theorem containsQ_any {A : Option Addr} {n c : Nat} {l : List QL} {p : QL → Bool} {g : Nat} {w : World} (h : Qs w A l) (hn : n = l.length) (hl : n ≤ 1000000)
    (hk : ∀ a ∈ l, ∀ (W : World) (v1 v2 v3 : Value), Q1 W v1 v2 v3 a → Calls Tryz.prog g #[.agg #[v1, v2, v3]] W (RetB W (p a))) (hg : ∀ args W, (callFunc g args).run Tryz.prog W = .ok (.enter g args) W) :
    Calls Tryz.prog 34 #[.slice A n c, .func (.func g) #[] #[]] w (RetB w (l.any p)) := by
  have CI := khide (indexQ_any (p := p) h hn hl hk hg (c := c))
  obtain ⟨b, hb⟩ : ∃ b, l.any p = b := ⟨_, rfl⟩
  rw [hb] at CI ⊢
  clear h hn hl hk hg hb
  go_enter Tryz.func34, Tryz.ntmps34
  go_wp2_with (first | (go_at_call 62; (with_reducible refine (CI.out).mono ?_); rintro e w2 ⟨v, rfl, hv, hb2⟩) | fail)
  go_ret
  exact ⟨ret_bool hv.out, hb2⟩
def greatQ (q : QL) : Bool := decide (3 < q.2.2.length) || (decide (8 < q.1.length + q.2.1.length) || (q.1.any longA || q.2.1.any longA))
def FitA (l : List AL) : Prop := l.length ≤ 1000000 ∧ ∀ a ∈ l, a.1.size + a.2.1.size ≤ 1000000000000000
section
variable {w : World} {q : QL}
set_option maxHeartbeats 8000000 in
theorem great_any {v1 v2 v3 : Value} (hq : Q1 w v1 v2 v3 q) (hf : FitA q.1) (hf' : FitA q.2.1) : Calls Tryz.prog 35 #[.agg #[v1, v2, v3]] w (RetB w (greatQ q)) := by
  obtain ⟨A1, c1, A2, c2, A3, c3, rfl, rfl, rfl, b1, b2, b3, b4, r1, r2, r3, -, -⟩ := hq.open_
  obtain ⟨l1, l2, ws⟩ := q
  dsimp only at *
  obtain ⟨W1, hW1⟩ : ∃ X, X = w.alloc (.cells #[.slice A1 l1.length c1, .slice A2 l2.length c2, .slice A3 ws.length c3] 41) := ⟨_, rfl⟩
  have HA : At W1 w.heap.size [.slice A1 l1.length c1, .slice A2 l2.length c2, .slice A3 ws.length c3] := by rw [hW1]; exact at_new0 _ _ _
  have HB : Bel w W1 := by rw [hW1]; exact (Bel.refl w).al _
  have C1 : Hid (∀ W, Bel w W → Calls Tryz.prog 63 #[.slice A1 l1.length c1, .func (.func 64) #[] #[]] W (RetB W (l1.any longA))) := fun W hb =>
    containsA_any (r1.up hb.hid) rfl hf.1 (fun a ha W => isLong_any (hf.2 a ha) W) (enters_of Tryz.func64 (by kernel_rfl) rfl)
  have C2 : Hid (∀ W, Bel w W → Calls Tryz.prog 63 #[.slice A2 l2.length c2, .func (.func 64) #[] #[]] W (RetB W (l2.any longA))) := fun W hb =>
    containsA_any (r2.up hb.hid) rfl hf'.1 (fun a ha W => isLong_any (hf'.2 a ha) W) (enters_of Tryz.func64 (by kernel_rfl) rfl)
  obtain ⟨x1, hx1⟩ : ∃ x, l1.any longA = x := ⟨_, rfl⟩
  obtain ⟨x2, hx2⟩ : ∃ x, l2.any longA = x := ⟨_, rfl⟩
  have HG : Hid (greatQ (l1, l2, ws) = (decide (3 < ws.length) || (decide (8 < l1.length + l2.length) || (x1 || x2)))) := by unfold Hid; rw [← hx1, ← hx2]; rfl
  rw [hx1] at C1
  rw [hx2] at C2
  have lb1 : l1.length ≤ 1000000 := hf.1
  have lb2 : l2.length ≤ 1000000 := hf'.1
  obtain ⟨n1, hn1⟩ : ∃ n, l1.length = n := ⟨_, rfl⟩
  obtain ⟨n2, hn2⟩ : ∃ n, l2.length = n := ⟨_, rfl⟩
  obtain ⟨n3, hn3⟩ : ∃ n, ws.length = n := ⟨_, rfl⟩
  rw [hn1] at HA C1 HG lb1 hW1 ⊢
  rw [hn2] at HA C2 HG lb2 hW1 ⊢
  rw [hn3] at HA HG hW1 ⊢
  have HW := khide hW1
  obtain ⟨gq, hgq⟩ : ∃ g, greatQ (l1, l2, ws) = g := ⟨_, rfl⟩
  rw [hgq] at HG ⊢
  clear hW1 hx1 hx2 hn1 hn2 hn3 r1 r2 r3 b1 b2 b3 b4 hf hf' hq hgq
  have e1 : IntKind.i64.wrap ((n1 : Int) + (n2 : Int)) = (n1 : Int) + (n2 : Int) := by rw [IntKind.wrap_i64]; omega
  have ha_0 := HA.c0; have ha_1 := HA.c1; have ha_2 := HA.c2; have ha_l := HA.lt
  by_cases h3 : 3 < n3
  · have d0 : decide ((3 : Int) < (n3 : Int)) = true := decide_eq_true (by omega)
    have d1 : decide (3 < n3) = true := decide_eq_true h3
    have HG2 : Hid (gq = true) := by rw [HG.out, d1]; rfl
    go_enter Tryz.func35, Tryz.ntmps35
    go_upto_region 1 with fail
    rw [← HW.out]
    go_wp2
    go_ret
    exact ⟨ret_bool HG2.out.symm, HB⟩
  · have d0 : decide ((3 : Int) < (n3 : Int)) = false := decide_eq_false (by omega)
    have d1 : decide (3 < n3) = false := decide_eq_false h3
    by_cases h8 : 8 < n1 + n2
    · have d2 : decide ((8 : Int) < (n1 : Int) + (n2 : Int)) = true := decide_eq_true (by omega)
      have d3 : decide (8 < n1 + n2) = true := decide_eq_true h8
      have HG2 : Hid (gq = true) := by rw [HG.out, d1, d3]; rfl
      go_enter Tryz.func35, Tryz.ntmps35
      go_upto_region 1 with fail
      rw [← HW.out]
      go_wp2
      go_ret
      exact ⟨ret_bool HG2.out.symm, HB⟩
    · have d2 : decide ((8 : Int) < (n1 : Int) + (n2 : Int)) = false := decide_eq_false (by omega)
      have d3 : decide (8 < n1 + n2) = false := decide_eq_false h8
      have HG2 : Hid (gq = (x1 || x2)) := by rw [HG.out, d1, d3]; rfl
      cases x1 with
      | true =>
        go_enter Tryz.func35, Tryz.ntmps35
        go_upto_region 1 with fail
        rw [← HW.out]
        go_wp2_with (first | (go_at_call 63; (with_reducible refine (C1.out _ HB).mono ?_); rintro e w2 ⟨rfl, hb2⟩) | fail)
        go_ret
        exact ⟨ret_bool HG2.out.symm, HB.up hb2.hid⟩
      | false =>
        go_enter Tryz.func35, Tryz.ntmps35
        go_upto_region 1 with fail
        rw [← HW.out]
        go_wp2_with (first | (go_at_call 63; (with_reducible refine (C1.out _ HB).mono ?_); rintro e w2 ⟨rfl, hb2⟩; clear ha_0 ha_1 ha_2 ha_l; replace HA := HA.up hb2.hid; have HB2 : Bel w w2 := HB.up hb2.hid; have ha_0 := HA.c0; have ha_1 := HA.c1; have ha_2 := HA.c2; have ha_l := HA.lt) | (go_at_call 63; (with_reducible refine (C2.out _ HB2).mono ?_); rintro e w3 ⟨rfl, hb3⟩) | fail)
        go_ret
        exact ⟨ret_bool HG2.out.symm, HB2.up hb3.hid⟩
end
end Go.Proofs.YthdpojkeceoiiaaGreatDoor
end

section
/- The law's own sameParts. Conditions: parts that fit, at most 1000. -/
open Go.RowKit
set_option maxRecDepth 100000
namespace Go.Proofs.YthdpojkeceoiiaaGreatDoor
def sameP (l l' : List PL) : Bool := decide (l = l')
def LenP (ps : List PL) : Prop := ∀ p ∈ ps, p.1.length ≤ 1000000 ∧ p.2.1.length ≤ 1000000
set_option maxHeartbeats 3000000 in
theorem sameParts_any {A B : Option Addr} {n m c d : Nat} {l l' : List PL} {w : World} (h : Ps w A l) (h' : Ps w B l') (hn : n = l.length) (hm : m = l'.length) (hl : n ≤ 1000000) (hl' : m ≤ 1000000) (hf : LenP l) (hf' : LenP l') :
    Calls Tryz.prog 18 #[.slice A n c, .slice B m d] w (BoolQ w (sameP l l')) := by
  by_cases hnm : n = m
  · subst hnm
    have HN := khide hn
    have HM := khide hm
    have HF := khide hf
    have HF' := khide hf'
    clear hn hm hf hf'
    go_enter Tryz.func18, Tryz.ntmps18
    go_wp2
    go_loopw [5] (fun iv wr => ∃ k q : Nat, k ≤ n ∧ iv = .int .i64 (k : Int) ∧ Hid (wr = w.drewN q) ∧ Hid (l.take k = l'.take k)) (fun iv _ => n - (intOf iv).toNat)
    case atStart => exact ⟨0, 0, Nat.zero_le _, rfl, rfl, rfl⟩
    case round =>
      obtain ⟨k, q, hk, rfl, HQ, HT⟩ := hrel
      by_cases hlt : k < n
      · obtain ⟨a, ha⟩ : ∃ a, l[k]? = some a := ⟨l[k]'(by rw [← HN.out]; exact hlt), List.getElem?_eq_getElem _⟩
        obtain ⟨b, hb⟩ : ∃ a, l'[k]? = some a := ⟨l'[k]'(by rw [← HM.out]; exact hlt), List.getElem?_eq_getElem _⟩
        have h9 : Ps wr A l := by rw [HQ.out]; exact h
        have h9' : Ps wr B l' := by rw [HQ.out]; exact h'
        obtain ⟨ad, A1, A2, c1, c2, rfl, had, a0, a1, a2, HA1, HA2⟩ := h9.at_ ha
        obtain ⟨bd, B1, B2, d1, d2, rfl, hbd, b0, b1, b2, HB1, HB2⟩ := h9'.at_ hb
        have fa := HF.out _ (List.mem_of_getElem? ha)
        have fb := HF'.out _ (List.mem_of_getElem? hb)
        obtain ⟨x1, x2, t⟩ := a
        obtain ⟨y1, y2, u⟩ := b
        dsimp only at a0 a1 a2 b0 b1 b2
        obtain ⟨r1, hr1⟩ : ∃ r, sameA x1 y1 = r := ⟨_, rfl⟩
        obtain ⟨r2, hr2⟩ : ∃ r, sameA x2 y2 = r := ⟨_, rfl⟩
        have C1 : Hid (∀ (X Y : Value) (j : Nat), X = .slice A1 x1.length c1 → Y = .slice B1 y1.length d1 → Calls Tryz.prog 44 #[X, Y] (wr.drewN j) fun e w' => e = .returned (.bool r1) ∧ ∃ i, w' = (wr.drewN j).drewN i) := fun X Y j eX eY => by subst eX; subst eY; exact hr1 ▸ sameAtoms_any (HA1.dn j) (HB1.dn j) rfl rfl fa.1 fb.1
        have C2 : Hid (∀ (X Y : Value) (j : Nat), X = .slice A2 x2.length c2 → Y = .slice B2 y2.length d2 → Calls Tryz.prog 44 #[X, Y] (wr.drewN j) fun e w' => e = .returned (.bool r2) ∧ ∃ i, w' = (wr.drewN j).drewN i) := fun X Y j eX eY => by subst eX; subst eY; exact hr2 ▸ sameAtoms_any (HA2.dn j) (HB2.dn j) rfl rfl fa.2 fb.2
        have k0 : (0 : Int) ≤ (k : Int) := by omega
        have k1 : (k : Int) < (n : Int) := by omega
        have HD : Hid ((x1, x2, t) ≠ (y1, y2, u) → sameP l l' = false) := fun he => decide_eq_false (fun e => he (by rw [e, hb] at ha; exact (Option.some.inj ha).symm))
        have HT2 : Hid ((x1, x2, t) = (y1, y2, u) → l.take (k + 1) = l'.take (k + 1)) := fun he => take_moreA ha (by rw [hb, he]) HT.out
        have HE1 : Hid (x1 = y1 ↔ r1 = true) := by unfold Hid; rw [← hr1]; unfold sameA; rw [decide_eq_true_eq]
        have HE2 : Hid (x2 = y2 ↔ r2 = true) := by unfold Hid; rw [← hr2]; unfold sameA; rw [decide_eq_true_eq]
        clear ha hb h9 h9' hr1 hr2 HA1 HA2 HB1 HB2 fa fb had hbd
        by_cases ht : t = u
        · have s1 : (t.toList == u.toList) = true := by rw [ht]; simp
          have s2 : (t.toList != u.toList) = false := by rw [bne, s1]; rfl
          have HTU := khide ht
          clear ht
          cases r1 with
          | false =>
            have HV : Hid (sameP l l' = false) := HD.out (fun e => by injection e with e1 _; exact absurd (HE1.out.1 e1) (by simp))
            go_wp2_with fail
            go_quiet (first | (go_at_call 44; first | exact Calls.quiet_of (C1.out _ _ _ (by rfl) (by rfl)) | exact Calls.quiet_of (C2.out _ _ _ (by rfl) (by rfl))) | fail)
            go_wp2
            go_ret
            exact ⟨ybool HV.out.symm, ydrew_more HQ⟩
          | true =>
            cases r2 with
            | false =>
              have HV : Hid (sameP l l' = false) := HD.out (fun e => by injection e with _ e1; injection e1 with e1 _; exact absurd (HE2.out.1 e1) (by simp))
              go_wp2_with fail
              go_quiet (first | (go_at_call 44; first | exact Calls.quiet_of (C1.out _ _ _ (by rfl) (by rfl)) | exact Calls.quiet_of (C2.out _ _ _ (by rfl) (by rfl))) | fail)
              go_wp2
              go_ret
              exact ⟨ybool HV.out.symm, ydrew_more HQ⟩
            | true =>
              have HV : Hid (l.take (k + 1) = l'.take (k + 1)) := HT2.out (by rw [HE1.out.2 rfl, HE2.out.2 rfl, HTU.out])
              go_wp2_with fail
              go_quiet (first | (go_at_call 44; first | exact Calls.quiet_of (C1.out _ _ _ (by rfl) (by rfl)) | exact Calls.quiet_of (C2.out _ _ _ (by rfl) (by rfl))) | fail)
              go_wp2
              go_roundw
              case rel =>
                obtain ⟨q2, hq2⟩ := ydrew_more HQ
                exact ⟨k + 1, q2, by omega, by go_num, hq2, HV⟩
              case measure => simp [intOf]; omega
        · have s1 : (t.toList == u.toList) = false := str_ne ht
          have s2 : (t.toList != u.toList) = true := by rw [bne, s1]; rfl
          have HV : Hid (sameP l l' = false) := HD.out (fun e => by injection e with _ e1; injection e1 with _ e1; exact ht e1)
          clear ht
          go_wp2_with fail
          go_quiet (first | (go_at_call 44; first | exact Calls.quiet_of (C1.out _ _ _ (by rfl) (by rfl)) | exact Calls.quiet_of (C2.out _ _ _ (by rfl) (by rfl))) | fail)
          go_wp2
          go_ret
          exact ⟨ybool HV.out.symm, ydrew_more HQ⟩
      · obtain rfl : k = n := by omega
        go_wp2
        go_ret
        refine ⟨ybool (Eq.symm (decide_eq_true ?_)), q, HQ.out⟩
        have h3 := HT.out
        rwa [List.take_of_length_le (by rw [← HN.out]; exact Nat.le_refl _), List.take_of_length_le (by rw [← HM.out]; exact Nat.le_refl _)] at h3
  · have d1 : ((n : Int) == (m : Int)) = false := by rw [beq_eq_false_iff_ne]; omega
    have HD : Hid (sameP l l' = false) := decide_eq_false (fun e => hnm (by rw [hn, hm, e]))
    clear hnm hn hm
    go_enter Tryz.func18, Tryz.ntmps18
    go_wp2
    go_ret
    exact ⟨ybool HD.out.symm, 0, rfl⟩
end Go.Proofs.YthdpojkeceoiiaaGreatDoor
end
