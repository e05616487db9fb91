/- Several texts in one, each with its own sentence and conditions. -/
import Derived.Test.YthdpojkeceoiiaaGreatDoorGOmc18
import Derived.BigQuiet
import Derived.Deep.CutRange
section
/- What sort.Slice's 'less' and 'swap' do here; sort.Slice of few atoms. Conditions: at most 12. -/
open Go.RowKit
set_option maxRecDepth 100000
namespace Go.Proofs.YthdpojkeceoiiaaGreatDoor
/-- The world in which the row of block g reads as dk, and the box b holds the slice. -/
def RowR (W0 : World) (b g : Nat) (A : Option Addr) (n c : Nat) (dk : Array AL) (W : World) : Prop := At W b [.slice A n c] ∧ (g < W.heap.size ∧ HK W g dk) ∧ Below W0.heap.size W0 W
theorem RowR.up {W0 W W' : World} {b g n c : Nat} {A : Option Addr} {dk : Array AL} (h : RowR W0 b g A n c dk W) (hb : Bel W W') : RowR W0 b g A n c dk W' := by
  obtain ⟨h1, ⟨h2, h3⟩, h4⟩ := h
  have hb' : Below W.heap.size W W' := hb
  refine ⟨h1.up hb.hid, ⟨Nat.lt_of_lt_of_le h2 hb'.size, fun t ht => ?_⟩, h4.trans (hb'.mono h4.size)⟩
  obtain ⟨k1, k2⟩ := h3 t ht
  exact ⟨(hb'.cell (show (⟨g, 0 + t, none⟩ : Addr).block < _ from h2)).trans k1, (hb'.frozen (show (⟨g, 0 + t, none⟩ : Addr).block < _ from h2)).trans k2⟩
theorem RowR.cs {W0 W : World} {b g n c : Nat} {A : Option Addr} {dk : Array AL} (h : RowR W0 b g A n c dk W) (hA : 0 < n → A = some ⟨g, 0, none⟩) (hn : dk.size = n) : Cs W A (cellsA dk.toList) := fun h0 => by
  rw [cellsA_len, Array.length_toList, hn] at h0
  refine ⟨_, hA (by omega), h.2.1.1, fun j v hv => ?_⟩
  rw [Addr.add_lit, Nat.zero_add]
  exact (hk_at h.2.1.2 j v hv).1
set_option maxHeartbeats 4000000 in
theorem closure_any {W0 W : World} {b g n c : Nat} {A : Option Addr} {dk : Array AL} (h : RowR W0 b g A n c dk W) (hA : 0 < n → A = some ⟨g, 0, none⟩) (hn : dk.size = n) {i j : Nat} (hi : i < n) (hj : j < n) (hl : n ≤ 1000000) :
    Calls Tryz.prog 53 #[.int .i64 i, .int .i64 j, .pointer (some ⟨b, 0, none⟩)] W (RetB W (ltQ dk[i]! dk[j]!)) := by
  have hc := h.cs hA hn
  obtain ⟨x, hx⟩ : ∃ x, dk[i]! = x := ⟨_, rfl⟩
  obtain ⟨y, hy⟩ : ∃ x, dk[j]! = x := ⟨_, rfl⟩
  have hx' : dk.toList[i]? = some x := by rw [Array.getElem?_toList, Array.getElem?_eq_getElem (by omega), ← hx, getElem!_pos dk i (by omega)]
  have hy' : dk.toList[j]? = some y := by rw [Array.getElem?_toList, Array.getElem?_eq_getElem (by omega), ← hy, getElem!_pos dk j (by omega)]
  rw [hx, hy]
  obtain ⟨ad, hA2, had, a0, a1, a2⟩ := cs_at3 hc hx'
  obtain ⟨bd, hB2, hbd, b0, b1, b2⟩ := cs_at3 hc hy'
  rw [hA2] at hB2
  obtain rfl : ad = bd := Option.some.inj hB2
  subst hA2
  obtain ⟨p, nm, pk⟩ := x
  obtain ⟨p', nm', pk'⟩ := y
  have HP := h.1
  obtain ⟨r, hr⟩ : ∃ r, ltQ (p, nm, pk) (p', nm', pk') = r := ⟨_, rfl⟩
  rw [hr]
  have C0 : Hid (∀ W : World, Calls Tryz.prog 54 #[.agg #[.string p, .string nm, .int .i64 pk], .agg #[.string p', .string nm', .int .i64 pk']] W (RetB W r)) := fun W => hr ▸ less_any p nm pk p' nm' pk' W
  have hb_0 := HP.c0; have hb_l := HP.lt
  have k0 : (i : Int) < (n : Int) := by omega
  have k1 : (j : Int) < (n : Int) := by omega
  have k2 : (0 : Int) ≤ (i : Int) := by omega
  have k3 : (0 : Int) ≤ (j : Int) := by omega
  clear h hc hx hy hx' hy' hr hA HP hB2 hn had hbd
  go_enter Tryz.func53, Tryz.ntmps53
  go_upto_region 1 with fail
  go_region_with (first | (go_at_call 54; (with_reducible refine (C0.out _).mono ?_); rintro e w2 ⟨rfl, hb2⟩) | fail)
  all_goals go_wp2_with fail
  all_goals go_ret
  all_goals exact ⟨rfl, (Bel.refl W).dr.up hb2.hid⟩
theorem HK.far {W : World} {g : Nat} {dk : Array AL} (vs : List Value) (o : Nat) {p : Nat} (hp : p ≠ g) {us : List Value} (h : At W p us) : At (W.setCells g o vs) p us := by
  induction vs generalizing o W with
  | nil => exact h
  | cons v r ih => exact ih _ (h.far (Ne.symm hp) v)
theorem size_setCells (g : Nat) : ∀ (vs : List Value) (o : Nat) (W : World), (W.setCells g o vs).heap.size = W.heap.size
  | [], _, _ => rfl
  | v :: r, o, W => by
    have := size_setCells g r (o + 1) (W.setCell ⟨g, o, none⟩ v)
    rw [World.setCells, this]; simp [World.setCell]
theorem below_setCells {B g : Nat} {W0 : World} (hg : B ≤ g) : ∀ (vs : List Value) (o : Nat) (W : World), Below B W0 W → Below B W0 (W.setCells g o vs)
  | [], _, _, h => h
  | v :: r, o, W, h => by
    rw [World.setCells]
    exact below_setCells hg r (o + 1) _ (Below.setCell h (show B ≤ (⟨g, o, none⟩ : Addr).block from hg) v)
theorem swap_any {W0 W : World} {b g n c : Nat} {A : Option Addr} {dk : Array AL} (h : RowR W0 b g A n c dk W) (hA : 0 < n → A = some ⟨g, 0, none⟩) (hn : dk.size = n) (h2 : 2 ≤ n) (hbg : b ≠ g) (hW0 : W0.heap.size ≤ g) {i j : Nat} (hi : i < n) (hj : j < n) :
    ∃ W', (callFunc (swF n) (#[.int .i64 i, .int .i64 j] ++ swB A n c)).run Tryz.prog W = .ok (.value (.tuple #[])) W' ∧ RowR W0 b g A n c (Sort.swp dk i j) W' ∧ ∀ p vs, p ≠ g → At W p vs → At W' p vs := by
  obtain ⟨h1, ⟨hg, h3⟩, h4⟩ := h
  obtain rfl := hA (by omega)
  refine ⟨(W.setCells g (0 + i * 3) (cellA dk[j]!)).setCells g (0 + j * 3) (cellA dk[i]!), ?_, ⟨?_, ⟨?_, ?_⟩, ?_⟩, fun p vs hp hv => ?_⟩
  · have hsw := swapSwapsK_of_literal (P := Tryz.prog) (α := AL) false 117 (fun args W => run_callFunc_extern Tryz.func117 (by kernel_rfl) (by kernel_rfl) (by kernel_rfl) (e := Extern.ReflectliteSwapper.swap false) (by kernel_rfl) args W) 59 atomE (by kernel_rfl) cellA 3 (fun _ => rfl) (by kernel_rfl) (fun _ => by kernel_rfl) (fun x v hv => cellsA_one [x] v (by simpa [cellsA] using hv)) g 0 n c
    have := hsw W dk h3 hn i j hi hj
    rw [show swF n = 117 by unfold swF; rw [if_neg (by omega), if_neg (by omega)], show swB (some ⟨g, 0, none⟩) n c = #[.slice (some ⟨g, 0, none⟩) n c, typeHandle Tryz.prog 59] by unfold swB; rw [if_neg (by omega)]]
    exact this
  · exact HK.far (dk := dk) _ _ hbg (HK.far (dk := dk) _ _ hbg h1)
  · rw [size_setCells, size_setCells]; exact hg
  · have e1 : Sort.putRowK cellA 3 (Sort.ahead W 0) g 0 dk = W := Sort.putRowK_self _ _ _ _ _ _ h3
    have e2 := Sort.swap_worldK cellA 3 (fun _ => rfl) W 0 0 g 0 dk i j (by omega) (by omega)
    rw [e1] at e2
    have e3 : W.drewN 0 = W := rfl
    rw [e3] at e2
    rw [e2]
    exact Sort.holdsK_putRowK _ _ _ _ _ dk _ h3 (by rw [Sort.size_swp])
  · exact below_setCells hW0 _ _ _ (below_setCells hW0 _ _ _ h4)
  · exact HK.far (dk := dk) _ _ hp (HK.far (dk := dk) _ _ hp hv)
theorem RowR.alloc {W0 W : World} {b g n c : Nat} {A : Option Addr} {dk : Array AL} (h : RowR W0 b g A n c dk W) (o : Obj) : RowR W0 b g A n c dk (W.alloc o) := h.up ((Bel.refl W).al o)
theorem RowR.drew {W0 W : World} {b g n c : Nat} {A : Option Addr} {dk : Array AL} (h : RowR W0 b g A n c dk W) : RowR W0 b g A n c dk W.drew := h.up (Bel.refl W).dr
theorem sorts_any {W0 : World} {b g n c : Nat} {A : Option Addr} (hA : 0 < n → A = some ⟨g, 0, none⟩) (hbg : 0 < n → b ≠ g) (hW0 : W0.heap.size ≤ g) (hl : n ≤ 12) : Sorts 53 #[.pointer (some ⟨b, 0, none⟩)] (swF n) (swB A n c) n g (RowR W0 b g A n c) where
  less dk W h hn i j hi hj := (closure_any h hA hn hi hj (by omega)).mono fun e w' ⟨h1, h2⟩ => ⟨h1, h2, h.up h2⟩
  swap h2 dk W h hn i j hi hj := swap_any h hA hn h2 (hbg (by omega)) hW0 hi hj
  alloc dk W o h := h.alloc o
  drew dk W h := h.drew
/-- sort.Slice of at most 12 atoms. -/
theorem slice_any {W0 W : World} {b g n c : Nat} {A : Option Addr} {d : Array AL} (h : RowR W0 b g A n c d W) (hs : d.size = n) (hA : 0 < n → A = some ⟨g, 0, none⟩) (hbg : 0 < n → b ≠ g) (hW0 : W0.heap.size ≤ g) (hl : n ≤ 12) :
    Calls Tryz.prog 52 #[.iface 36 (.slice A n c), .func (.func 53) #[] #[.pointer (some ⟨b, 0, none⟩)]] W fun e w' => e = .returned (.tuple #[]) ∧ RowR W0 b g A n c (Sort.insertionSort ltQ d 0 n) w' := by
  refine Any.sort_Slice_of_pdq Tryz.laysGg6 36 59 atomsT atomE (by kernel_rfl) (by kernel_rfl) (by kernel_rfl) (by kernel_rfl) 25 (fun _ => by kernel_rfl) A n c (by omega) (swF n) (swF_at n) (.func 53) #[] #[.pointer (some ⟨b, 0, none⟩)] W _ ?_
  have hB : sliceBound Tryz.prog 59 atomE 25 A n c = swB A n c := swB_at A n c
  rw [hB]
  have h2 : RowR W0 b g A n c d (sliceWorld Tryz.prog Tryz.laysGg6_ren 36 A n c W) := by unfold sliceWorld; exact (h.alloc _).alloc _
  have hsz : g < (sliceWorld Tryz.prog Tryz.laysGg6_ren 36 A n c W).heap.size := h2.2.1.1
  exact pdq_any (sorts_any hA hbg hW0 hl) (enters_of Tryz.func53 (by kernel_rfl) rfl) _ h2 hs hl hsz
end Go.Proofs.YthdpojkeceoiiaaGreatDoor
end

section
/- unit.combine. Conditions: at most 12 atoms, powers that fit. -/
open Go.RowKit
set_option maxRecDepth 100000
namespace Go.Proofs.YthdpojkeceoiiaaGreatDoor
/-- One atom more, behind those that are put together already. -/
def addQ (acc : List AL) (a : AL) : Option (List AL) := match acc.getLast? with
  | none => some (acc ++ [a])
  | some q => if q.1 = a.1 ∧ q.2.1 = a.2.1 then (if 15 < q.2.2 + a.2.2 then none else some (acc.dropLast ++ [(q.1, q.2.1, q.2.2 + a.2.2)])) else some (acc ++ [a])
def foldQ : List AL → List AL → Option (List AL)
  | acc, [] => some acc
  | acc, a :: l => match addQ acc a with
    | none => none
    | some acc' => foldQ acc' l
/-- The atoms in order, with one for all of the same prefix and name. -/
def combL (l : List AL) : Option (List AL) := foldQ [] (sortQ l)
def PowsQ (l : List AL) : Prop := ∀ a ∈ l, 0 ≤ a.2.2 ∧ a.2.2 ≤ 1000000
theorem foldQ_no {acc s : List AL} {k : Nat} {a : AL} (h : s[k]? = some a) (ha : addQ acc a = none) : foldQ acc (s.drop k) = none := by
  obtain ⟨hk, he⟩ := List.getElem?_eq_some_iff.1 h
  rw [List.drop_eq_getElem_cons hk, he, foldQ, ha]
theorem foldQ_yes {acc acc' s : List AL} {k : Nat} {a : AL} (h : s[k]? = some a) (ha : addQ acc a = some acc') : foldQ acc (s.drop k) = foldQ acc' (s.drop (k + 1)) := by
  obtain ⟨hk, he⟩ := List.getElem?_eq_some_iff.1 h
  rw [List.drop_eq_getElem_cons hk, he, foldQ, ha]
theorem addQ_nil (a : AL) : addQ [] a = some ([] ++ [a]) := rfl
theorem addQ_ne {acc : List AL} {q a : AL} (h : ¬ (q.1 = a.1 ∧ q.2.1 = a.2.1)) : addQ (acc ++ [q]) a = some (acc ++ [q] ++ [a]) := by
  unfold addQ; rw [List.getLast?_append]; simp only [List.getLast?_singleton, Option.some_or]; rw [if_neg h]
theorem addQ_long {acc : List AL} {q a : AL} (h : q.1 = a.1 ∧ q.2.1 = a.2.1) (hp : 15 < q.2.2 + a.2.2) : addQ (acc ++ [q]) a = none := by
  unfold addQ; rw [List.getLast?_append]; simp only [List.getLast?_singleton, Option.some_or]; rw [if_pos h, if_pos hp]
theorem addQ_sum {acc : List AL} {q a : AL} (h : q.1 = a.1 ∧ q.2.1 = a.2.1) (hp : ¬ 15 < q.2.2 + a.2.2) : addQ (acc ++ [q]) a = some (acc ++ [(q.1, q.2.1, q.2.2 + a.2.2)]) := by
  unfold addQ; rw [List.getLast?_append]; simp only [List.getLast?_singleton, Option.some_or]; rw [if_pos h, if_neg hp, List.dropLast_concat]
theorem pows_snoc {l : List AL} {a : AL} (h : PowsQ l) (ha : 0 ≤ a.2.2 ∧ a.2.2 ≤ 1000000) : PowsQ (l ++ [a]) := fun q hq => by
  rcases List.mem_append.1 hq with hq | hq
  · exact h q hq
  · obtain rfl := List.mem_singleton.1 hq; exact ha
theorem own_set {w : World} {base n c g i s : Nat} {e : TypeId} {xs : List Value} (h : w.ownsRow base e s (.slice (some ⟨g, 0, none⟩) n c) n xs) (hi : i < xs.length) (u : Value) : (w.setCell ⟨g, i, none⟩ u).ownsRow base e s (.slice (some ⟨g, 0, none⟩) n c) n (xs.set i u) := by
  refine ⟨by rw [List.length_set]; exact h.1, ?_⟩
  rcases h.2 with ⟨h0, _⟩ | ⟨g', cap, cur, h0, hb, hg, h3, h4, h5, h6⟩
  · cases h0
  · cases h0
    have hgl : g < w.heap.size := (Array.getElem?_eq_some_iff.1 hg).1
    have hl : i < n * s := by rw [← h.1]; exact hi
    have hn3 : n * s ≤ c * s := Nat.mul_le_mul_right _ h3
    refine .inr ⟨g, c, cur.setIfInBounds i u, rfl, hb, ?_, h3, h4, by rw [Array.size_setIfInBounds]; exact h5, ?_⟩
    · simp [World.setCell, Array.getElem?_modify, hg]
    · rw [Array.toList_setIfInBounds, List.take_set, h6]
theorem cellsA_set (acc : List AL) (q : AL) (v : Int) : (cellsA (acc ++ [q])).set (acc.length * 3 + 2) (.int .i64 v) = cellsA (acc ++ [(q.1, q.2.1, v)]) := by
  rw [cellsA_snoc, cellsA_snoc, List.set_append_right _ _ (by rw [cellsA_len]; omega), cellsA_len, show acc.length * 3 + 2 - acc.length * 3 = 2 by omega]
  rfl
theorem seqO {s t : ByteArray} : (s.toList == t.toList) = decide (s = t) := by
  rw [Bool.eq_iff_iff]
  simp only [beq_iff_eq, decide_eq_true_eq]
  constructor
  · intro e
    rw [Lib.toList_data, Lib.toList_data] at e
    exact ByteArray.ext (Array.ext' e)
  · intro e; rw [e]
theorem list_last {α : Type} (l : List α) : l = [] ∨ ∃ l' a, l = l' ++ [a] := by
  rcases List.eq_nil_or_concat l with h | ⟨a, b, h⟩
  · exact .inl h
  · exact .inr ⟨a, b, by simpa using h⟩
end Go.Proofs.YthdpojkeceoiiaaGreatDoor
end

section
/- unit.combine. Conditions: at most 12 atoms, powers that fit. -/
open Go.RowKit
set_option maxRecDepth 100000
namespace Go.Proofs.YthdpojkeceoiiaaGreatDoor
set_option maxHeartbeats 8000000 in
theorem combine_any {W : World} {A : Option Addr} {n c : Nat} {l : List AL} (h : Cs W A (cellsA l)) (hn : n = l.length) (hl : n ≤ 12) (hf : PowsQ l) {res : Option (List AL)} (hres : combL l = res) :
    Calls Tryz.prog 26 #[.slice A n c] W (AtomsP W res) := by
  have CC : Hid (Calls Tryz.prog 51 #[.slice A n c] W (RetCs W l)) := clone_any h hn (by omega)
  obtain ⟨s, hs⟩ : ∃ s, sortQ l = s := ⟨_, rfl⟩
  have HSL : Hid (s.length = n) := by rw [← hs, sortQ_len, hn]; rfl
  have HSP : Hid (PowsQ s) := fun a ha => hf a (((sortQ_facts l).1.mem_iff).1 (by rw [hs]; exact ha))
  have HRES : Hid (foldQ [] s = res) := by rw [← hs]; exact hres
  have CS : Hid (∀ (W2 : World) (b c1 n' : Nat) (R : Option Addr), n' = l.length → At W2 b [.slice R n' c1] → Hid (W2.ownsRow W.heap.size 59 3 (.slice R n' c1) n' (cellsA l)) → W.heap.size ≤ b → (∀ g, R = some ⟨g, 0, none⟩ → b ≠ g) → Bel W W2 →
      Calls Tryz.prog 52 #[.iface 36 (.slice R n' c1), .func (.func 53) #[] #[.pointer (some ⟨b, 0, none⟩)]] W2 fun e w' => e = .returned (.tuple #[]) ∧ Hid (At w' b [.slice R n c1]) ∧ Hid (Cs w' R (cellsA s)) ∧ Hid (Bel W w')) := by
    intro W2 b c1 n' R hn' hb ho hwb hne hbel
    obtain rfl : n = n' := by omega
    have ho := ho.out
    obtain ⟨g, hA, hg, hbg, hk⟩ : ∃ g, (0 < n → R = some ⟨g, 0, none⟩) ∧ W.heap.size ≤ g ∧ (0 < n → b ≠ g) ∧ (g < W2.heap.size ∧ HK W2 g l.toArray) := by
      by_cases h0 : 0 < n
      · rcases ho.2 with ⟨_, h1⟩ | ⟨g, cap, cur, e, hb', _⟩
        · omega
        · injection e with e1 e2 e3
          subst e1
          exact ⟨g, fun _ => rfl, hb', fun _ => hne g rfl, (at_of_own ho).1.lt, hk_of (by simpa using (at_of_own ho).1)⟩
      · have hl0 : l = [] := List.eq_nil_of_length_eq_zero (by omega)
        exact ⟨b, fun h1 => absurd h1 h0, hwb, fun h1 => absurd h1 h0, hb.lt, fun t ht => by subst hl0; simp [Sort.flatK] at ht⟩
    have hR : RowR W b g R n c1 l.toArray W2 := ⟨hb, hk, hbel⟩
    refine (slice_any hR (by simp [hn]) hA hbg hg hl).mono fun e w' ⟨h1, h2⟩ => ⟨h1, h2.1, ?_, h2.2.2⟩
    have h3 := h2.cs hA (by have := (sortQ_facts l).2.2; rw [hn]; exact this)
    rw [← hs]
    unfold sortQ
    rw [← hn]
    exact h3
  have HN := khide hn
  obtain ⟨i0, hi, hz0, hz1, hz2⟩ := info_parts infoAtomP
  have J0 := khide hi; have Y0 := khide hz0; have Y1 := khide hz1; have Y2 := khide hz2
  clear h hn hf hres hs hi hz0 hz1 hz2
  go_enter Tryz.func26, Tryz.ntmps26
  go_upto_region 1 with fail
  go_upto_region 2 with (first | (go_at_call 51; (with_reducible refine CC.out.mono ?_); rintro e w1 ⟨R, n1, c1, hn1, rfl, HO1, hb1⟩; replace hn1 := khide hn1) | fail)
  refine kwp_named ?_
  intro W2 hW2
  have HBX : At W2 w1.heap.size [.slice R n1 c1] := by rw [hW2]; exact at_new0 _ _ _
  have HO2 : Hid (W2.ownsRow W.heap.size 59 3 (.slice R n1 c1) n1 (cellsA l)) := by rw [hW2]; exact HO1.out.alloc _
  have HB2 : Bel W W2 := by rw [hW2]; exact (Bel.of hb1).al _
  have C2 := CS.out W2 w1.heap.size c1 n1 R hn1.out HBX HO2 hb1.out.size (fun g e => by
    subst e
    have := (at_of_own HO1.out).1.lt
    omega) HB2
  have C3 := khide C2
  have hb_0 := HBX.c0; have hb_l := HBX.lt
  have hnn : n1 = n := by have := HN.out; have := hn1.out; omega
  obtain ⟨bx, hbx⟩ : ∃ b, b = w1.heap.size := ⟨_, rfl⟩
  rw [← hbx] at hb_0 hb_l C3
  rw [← hbx]
  clear C2 hW2 hbx HBX HO2 CC CS HO1 hb1 hn1 HB2
  subst hnn
  go_upto_region 4 with (first | (go_at_call 52; (with_reducible refine C3.out.mono ?_); rintro e w3 ⟨rfl, HBX, HS, HBW⟩) | fail)
  have hx_0 := HBX.out.c0; have hx_l := HBX.out.lt
  clear hb_0 hb_l C3
  go_wp2_with fail
  clear hx_0 hx_l
  go_loopw [5, 17] (fun rv iv wr => ∃ (k cp m : Nat) (R' : Option Addr) (acc : List AL), k ≤ n1 ∧ iv = .int .i64 (k : Int) ∧ rv = .slice R' m cp ∧ m ≤ k ∧ Hid (m = acc.length) ∧ Hid (foldQ acc (s.drop k) = res) ∧ Hid (PowsQ acc) ∧ Hid (wr.ownsRow w3.heap.size 59 3 (.slice R' m cp) m (cellsA acc)) ∧ Hid (Below w3.heap.size w3 wr)) (fun _ iv _ => n1 - (intOf iv).toNat)
  case atStart => exact ⟨0, 0, 0, none, [], Nat.zero_le _, rfl, rfl, Nat.le_refl _, rfl, HRES, (fun a h => by cases h), World.ownsRow_nil _ _ _ _, Below.refl _ _⟩
  case round =>
    obtain ⟨k, cp, m, R', acc, hk, rfl, rfl, hmk, HM, HV0, HP, HO, HB⟩ := hrel
    by_cases hlt : k < n1
    · obtain ⟨a, ha⟩ : ∃ a, s[k]? = some a := ⟨s[k]'(by rw [HSL.out]; exact hlt), List.getElem?_eq_getElem _⟩
      obtain ⟨ad, rfl, had, a0, a1, a2⟩ := cs_at3 (HS.out.up HB) ha
      have hpk := HSP.out a (List.mem_of_getElem? ha)
      obtain ⟨p, nm, pk⟩ := a
      have HPK : Hid (0 ≤ pk ∧ pk ≤ 1000000) := hpk
      have HBS : Hid (w3.heap.size ≤ wr.heap.size) := HB.out.size
      have k0 : (0 : Int) ≤ (k : Int) := by omega
      have k1 : (k : Int) < (n1 : Int) := by omega
      clear hpk
      rcases list_last acc with hacc | ⟨acc', q, hacc⟩
      · have HV : Hid (foldQ ([] ++ [(p, nm, pk)]) (s.drop (k + 1)) = res) := by
          rw [← HV0.out, hacc]; exact (foldQ_yes ha (addQ_nil _)).symm
        have HP2 : Hid (PowsQ ([] ++ [(p, nm, pk)])) := pows_snoc (fun a h => by cases h) HPK.out
        subst hacc
        obtain rfl : m = 0 := HM.out
        have w0 : IntKind.i64.wrap (0 - 1) = -1 := by decide
        have w1' : IntKind.i64.wrap (-1) = -1 := by decide
        have d0 : decide ((-1 : Int) < 0) = true := by decide
        clear ha
        go_upto_region 8 with fail
        refine kwp_named ?_
        intro W5 hW5
        have H7 : At W5 wr.heap.size [.string p, .string nm, .int .i64 pk] := by rw [hW5]; exact at_new0 _ _ _
        have HO5 : Hid (W5.ownsRow w3.heap.size 59 3 (.slice R' 0 cp) 0 (cellsA [])) := by rw [hW5]; exact HO.out.alloc _
        have HB5 : Hid (Below w3.heap.size w3 W5) := by rw [hW5]; exact HB.out.alloc HB.out.size _
        have H7O : Hid (w3.heap.size ≤ wr.heap.size) := HBS
        obtain ⟨p7, hp7⟩ : ∃ b, b = wr.heap.size := ⟨_, rfl⟩
        rw [← hp7] at H7 H7O
        rw [← hp7]
        have c7_0 := H7.c0; have c7_1 := H7.c1; have c7_2 := H7.c2; have c7_l := H7.lt
        clear hW5 HO HB HBS hp7
        go_quiet (fail)
        rename_i nq
        obtain ⟨W6, hW6⟩ : ∃ X, X = W5.drewN nq := ⟨_, rfl⟩
        rw [← hW6]
        clear c7_0 c7_1 c7_2 c7_l
        replace H7 : At W6 p7 [.string p, .string nm, .int .i64 pk] := by rw [hW6]; exact ⟨H7.lt, H7.all⟩
        have HO6 : Hid (W6.ownsRow w3.heap.size 59 3 (.slice R' 0 cp) 0 (cellsA [])) := by rw [hW6]; exact HO5
        have HB6 : Hid (Below w3.heap.size w3 W6) := by rw [hW6]; exact ybelow_drewN HB5.out _
        have c7_0 := H7.c0; have c7_1 := H7.c1; have c7_2 := H7.c2; have c7_l := H7.lt
        clear hW6 HO5 HB5
        go_wp2_with (first | (at_builtin; go_must (refine wpList_append_own _ rfl (.tmp 46) (.tmp 48) 36 rfl w3.heap.size 59 i0 (.agg #[.string ByteArray.empty, .string ByteArray.empty, .int .i64 0]) 3 40 Tryz.underlying36 J0.out Y0.out Y1.out Y2.out rfl (by decide) _ _ _ rfl (HO6.out.alloc _) ⟨W6.heap.size, 0, none⟩ 1 1 (cellA (p, nm, pk)) rfl rfl (at_news (at_new0 _ _ _)) (cellA_one _) (by simp only [maxLen]; omega) (by omega) (Nat.le_trans HB6.out.size (by simp)) ?_); intro v1 w4 ho1 hg1 hn1; clear hn1) | fail)
        have hg2 : (W6.alloc (.cells #[.string p, .string nm, .int .i64 pk] 59)).grownBy w4 (Value.slice R' 0 cp).ownBlock := hg1
        have HO2 := HO6.out.alloc (.cells #[.string p, .string nm, .int .i64 pk] 59)
        have HB4 : Hid (Below w3.heap.size w3 w4) := (HB6.out.alloc HB6.out.size _).grown hg2 (HB6.out.alloc HB6.out.size _).size (fun g' e => (HO2.lt g' e).1)
        obtain ⟨R2, cp2, rfl, _⟩ := own_slice ho1
        have HO3 := khide ho1
        clear hg1 hg2 ho1 HO2
        go_roundw
        case rel =>
          refine ⟨k + 1, cp2, 0 + 1, R2, [] ++ [(p, nm, pk)], by omega, by go_num, rfl, by omega, ?_, HV, HP2, ?_, HB4⟩
          · exact khide (by rw [List.length_append, ← HM.out]; rfl)
          · rw [cellsA_snoc]
            unfold Hid
            simpa using HO3.out
        case measure => simp [intOf]; omega
      · obtain ⟨q1, q2, q3⟩ := q
        obtain ⟨j, hj⟩ : ∃ j, j = acc'.length := ⟨_, rfl⟩
        have hm1 : m = j + 1 := by rw [HM.out, hacc, hj]; simp
        have hq3 : 0 ≤ q3 ∧ q3 ≤ 1000000 := HP.out (q1, q2, q3) (by rw [hacc]; simp)
        have HPA : Hid (PowsQ acc') := fun a h => HP.out a (by rw [hacc]; simp [h])
        obtain ⟨g', rfl, hgb⟩ : ∃ g, R' = some ⟨g, 0, none⟩ ∧ w3.heap.size ≤ g := by
          rcases HO.out.2 with ⟨_, h1⟩ | ⟨g, cap, cur, e, hb', _⟩
          · omega
          · injection e with e1 e2 e3
            exact ⟨g, e1, hb'⟩
        have hq : acc[j]? = some (q1, q2, q3) := by rw [hacc, hj]; simp
        obtain ⟨x0, x1, x2⟩ := cellsA_get hq
        have wj : IntKind.i64.wrap ((m : Int) - 1) = (j : Int) := by rw [hm1]; simp [IntKind.wrap, IntKind.bits, IntKind.signed]; omega
        have d0 : decide ((j : Int) < 0) = false := decide_eq_false (by omega)
        have k2 : (0 : Int) ≤ (j : Int) := by omega
        have k3 : (j : Int) < (m : Int) := by omega
        have k4 : j < m := by omega
        have HJ := khide hj
        have HM1 := khide hm1
        have HQ3 := khide hq3
        have HACC := khide hacc
        have HHA := khide ha
        clear hj hm1 hq3 ha hq hacc
        by_cases he : q1 = p ∧ q2 = nm
        · have d1 : (q1.toList == p.toList) = true := by rw [he.1]; simp
          have d2 : (q2.toList == nm.toList) = true := by rw [he.2]; simp
          obtain ⟨v, hv⟩ : ∃ v, v = q3 + pk := ⟨_, rfl⟩
          have wv : IntKind.i64.wrap (q3 + pk) = v := by rw [hv]; have := HQ3.out; have := HPK.out; simp [IntKind.wrap, IntKind.bits, IntKind.signed]; omega
          have HVV := khide hv
          clear hv
          go_upto_region 8 with fail
          refine kwp_named ?_
          intro W5 hW5
          have H7 : At W5 wr.heap.size [.string p, .string nm, .int .i64 pk] := by rw [hW5]; exact at_new0 _ _ _
          have HO5 : Hid (W5.ownsRow w3.heap.size 59 3 (.slice (some ⟨g', 0, none⟩) m cp) m (cellsA acc)) := by rw [hW5]; exact HO.out.alloc _
          have HB5 : Hid (Below w3.heap.size w3 W5) := by rw [hW5]; exact HB.out.alloc HB.out.size _
          have H7O : Hid (w3.heap.size ≤ wr.heap.size) := HBS
          obtain ⟨p7, hp7⟩ : ∃ b, b = wr.heap.size := ⟨_, rfl⟩
          rw [← hp7] at H7 H7O
          rw [← hp7]
          have HA5 := (at_of_own HO5.out).1
          have y0 := HA5.ci x0; have y1 := HA5.ci x1
          have hgl := HA5.lt
          have c7_0 := H7.c0; have c7_1 := H7.c1; have c7_2 := H7.c2; have c7_l := H7.lt
          clear hW5 HO HB HBS hp7 HA5
          go_quiet (fail)
          rename_i nq
          obtain ⟨W6, hW6⟩ : ∃ X, X = W5.drewN nq := ⟨_, rfl⟩
          rw [← hW6]
          clear c7_0 c7_1 c7_2 c7_l y0 y1 hgl
          replace H7 : At W6 p7 [.string p, .string nm, .int .i64 pk] := by rw [hW6]; exact ⟨H7.lt, H7.all⟩
          have HO6 : Hid (W6.ownsRow w3.heap.size 59 3 (.slice (some ⟨g', 0, none⟩) m cp) m (cellsA acc)) := by rw [hW6]; exact HO5
          have HB6 : Hid (Below w3.heap.size w3 W6) := by rw [hW6]; exact ybelow_drewN HB5.out _
          have c7_0 := H7.c0; have c7_1 := H7.c1; have c7_2 := H7.c2; have c7_l := H7.lt
          clear hW6 HO5 HB5
          have HA6 := (at_of_own HO6.out).1
          have y2 := HA6.ci x2; have y9 := HA6.fi x2; have hgl := HA6.lt
          go_upto_region 10 with fail
          go_region_with fail
          all_goals (
            obtain ⟨W7, hW7⟩ : ∃ X, X = (W6.setCell ⟨g', j * 3 + 2, none⟩ (.int .i64 v)).drew := ⟨_, rfl⟩
            rw [← hW7]
            have HO7 : Hid (W7.ownsRow w3.heap.size 59 3 (.slice (some ⟨g', 0, none⟩) m cp) m (cellsA (acc' ++ [(q1, q2, v)]))) := by
              rw [hW7]
              have h1 := own_set HO6.out (i := j * 3 + 2) (by rw [HO6.out.1]; omega) (.int .i64 v)
              rw [HACC.out, HJ.out, cellsA_set] at h1
              rw [HJ.out]
              exact h1
            have HB7 : Hid (Below w3.heap.size w3 W7) := by rw [hW7]; exact (Below.setCell HB6.out (show w3.heap.size ≤ (⟨g', j * 3 + 2, none⟩ : Addr).block from hgb) _).drew
            have HA7 := (at_of_own HO7.out).1
            clear y2 y9 hgl c7_0 c7_1 c7_2 c7_l H7 HO6 HB6 HA6 hW7
            have z2 := HA7.ci (i := j * 3 + 2) (v := .int .i64 v) (by rw [HJ.out]; exact (cellsA_get (l := acc' ++ [(q1, q2, v)]) (k := acc'.length) (a := (q1, q2, v)) (by simp)).2.2)
            have zl := HA7.lt
            by_cases h15 : 15 < v
            · have d3 : decide ((15 : Int) < v) = true := decide_eq_true h15
              have HV : Hid (res = none) := by
                rw [← HV0.out]; exact foldQ_no HHA.out (by rw [HACC.out]; exact addQ_long he (by rw [← HVV.out]; exact h15))
              clear he HA7
              go_wp2_with fail
              go_ret2
              rw [HV.out]
              exact ⟨rfl, (Bel.up HBW.out HB7)⟩
            · have d3 : decide ((15 : Int) < v) = false := decide_eq_false h15
              have HV : Hid (foldQ (acc' ++ [(q1, q2, v)]) (s.drop (k + 1)) = res) := by
                rw [← HV0.out]; exact (foldQ_yes HHA.out (by rw [HACC.out, HVV.out]; exact addQ_sum he (by rw [← HVV.out]; exact h15))).symm
              have HP2 : Hid (PowsQ (acc' ++ [(q1, q2, v)])) := pows_snoc HPA.out (by have h1 := HQ3.out; have h2 := HPK.out; have h3 := HVV.out; show 0 ≤ v ∧ v ≤ 1000000; omega)
              clear he HA7
              go_wp2_with fail
              go_roundw
              case rel => exact ⟨k + 1, cp, m, some ⟨g', 0, none⟩, acc' ++ [(q1, q2, v)], by omega, by go_num, rfl, by omega, khide (by rw [HM1.out, HJ.out]; simp), HV, HP2, HO7, HB7⟩
              case measure => simp [intOf]; omega)
        · have HV : Hid (foldQ (acc ++ [(p, nm, pk)]) (s.drop (k + 1)) = res) := by
            rw [← HV0.out]; exact (foldQ_yes HHA.out (by rw [HACC.out]; exact addQ_ne he)).symm
          have HP2 : Hid (PowsQ (acc ++ [(p, nm, pk)])) := pows_snoc HP.out HPK.out
          by_cases he1 : q1 = p
          · have d1 : (q1.toList == p.toList) = true := by rw [he1]; simp
            have d2 : (q2.toList == nm.toList) = false := by rw [seqO]; exact decide_eq_false (fun h => he ⟨he1, h⟩)
            go_upto_region 8 with fail
            refine kwp_named ?_
            intro W5 hW5
            have H7 : At W5 wr.heap.size [.string p, .string nm, .int .i64 pk] := by rw [hW5]; exact at_new0 _ _ _
            have HO5 : Hid (W5.ownsRow w3.heap.size 59 3 (.slice (some ⟨g', 0, none⟩) m cp) m (cellsA acc)) := by rw [hW5]; exact HO.out.alloc _
            have HB5 : Hid (Below w3.heap.size w3 W5) := by rw [hW5]; exact HB.out.alloc HB.out.size _
            have H7O : Hid (w3.heap.size ≤ wr.heap.size) := HBS
            obtain ⟨p7, hp7⟩ : ∃ b, b = wr.heap.size := ⟨_, rfl⟩
            rw [← hp7] at H7 H7O
            rw [← hp7]
            have HA5 := (at_of_own HO5.out).1
            have y0 := HA5.ci x0; have y1 := HA5.ci x1
            have hgl := HA5.lt
            have c7_0 := H7.c0; have c7_1 := H7.c1; have c7_2 := H7.c2; have c7_l := H7.lt
            clear hW5 HO HB HBS hp7 HA5
            go_quiet (fail)
            rename_i nq
            obtain ⟨W6, hW6⟩ : ∃ X, X = W5.drewN nq := ⟨_, rfl⟩
            rw [← hW6]
            clear c7_0 c7_1 c7_2 c7_l y0 y1 hgl
            replace H7 : At W6 p7 [.string p, .string nm, .int .i64 pk] := by rw [hW6]; exact ⟨H7.lt, H7.all⟩
            have HO6 : Hid (W6.ownsRow w3.heap.size 59 3 (.slice (some ⟨g', 0, none⟩) m cp) m (cellsA acc)) := by rw [hW6]; exact HO5
            have HB6 : Hid (Below w3.heap.size w3 W6) := by rw [hW6]; exact ybelow_drewN HB5.out _
            have c7_0 := H7.c0; have c7_1 := H7.c1; have c7_2 := H7.c2; have c7_l := H7.lt
            clear hW6 HO5 HB5
            go_wp2_with (first | (at_builtin; go_must (refine wpList_append_own _ rfl (.tmp 46) (.tmp 48) 36 rfl w3.heap.size 59 i0 (.agg #[.string ByteArray.empty, .string ByteArray.empty, .int .i64 0]) 3 40 Tryz.underlying36 J0.out Y0.out Y1.out Y2.out rfl (by decide) _ _ _ rfl (HO6.out.alloc _) ⟨W6.heap.size, 0, none⟩ 1 1 (cellA (p, nm, pk)) rfl rfl (at_news (at_new0 _ _ _)) (cellA_one _) (by simp only [maxLen]; omega) (by omega) (Nat.le_trans HB6.out.size (by simp)) ?_); intro v1 w4 ho1 hg1 hn1; clear hn1) | fail)
            have hg2 : (W6.alloc (.cells #[.string p, .string nm, .int .i64 pk] 59)).grownBy w4 (Value.slice (some ⟨g', 0, none⟩) m cp).ownBlock := hg1
            have HO2 := HO6.out.alloc (.cells #[.string p, .string nm, .int .i64 pk] 59)
            have HB4 : Hid (Below w3.heap.size w3 w4) := (HB6.out.alloc HB6.out.size _).grown hg2 (HB6.out.alloc HB6.out.size _).size (fun g' e => (HO2.lt g' e).1)
            obtain ⟨R2, cp2, rfl, _⟩ := own_slice ho1
            have HO3 := khide ho1
            clear hg1 hg2 ho1 HO2
            go_roundw
            case rel =>
              refine ⟨k + 1, cp2, m + 1, R2, acc ++ [(p, nm, pk)], by omega, by go_num, rfl, by omega, ?_, HV, HP2, ?_, HB4⟩
              · exact khide (by rw [List.length_append, ← HM.out]; rfl)
              · rw [cellsA_snoc]
                unfold Hid
                simpa using HO3.out
            case measure => simp [intOf]; omega

          · have d1 : (q1.toList == p.toList) = false := by rw [seqO]; exact decide_eq_false he1
            go_upto_region 8 with fail
            refine kwp_named ?_
            intro W5 hW5
            have H7 : At W5 wr.heap.size [.string p, .string nm, .int .i64 pk] := by rw [hW5]; exact at_new0 _ _ _
            have HO5 : Hid (W5.ownsRow w3.heap.size 59 3 (.slice (some ⟨g', 0, none⟩) m cp) m (cellsA acc)) := by rw [hW5]; exact HO.out.alloc _
            have HB5 : Hid (Below w3.heap.size w3 W5) := by rw [hW5]; exact HB.out.alloc HB.out.size _
            have H7O : Hid (w3.heap.size ≤ wr.heap.size) := HBS
            obtain ⟨p7, hp7⟩ : ∃ b, b = wr.heap.size := ⟨_, rfl⟩
            rw [← hp7] at H7 H7O
            rw [← hp7]
            have HA5 := (at_of_own HO5.out).1
            have y0 := HA5.ci x0; have y1 := HA5.ci x1
            have hgl := HA5.lt
            have c7_0 := H7.c0; have c7_1 := H7.c1; have c7_2 := H7.c2; have c7_l := H7.lt
            clear hW5 HO HB HBS hp7 HA5
            go_quiet (fail)
            rename_i nq
            obtain ⟨W6, hW6⟩ : ∃ X, X = W5.drewN nq := ⟨_, rfl⟩
            rw [← hW6]
            clear c7_0 c7_1 c7_2 c7_l y0 y1 hgl
            replace H7 : At W6 p7 [.string p, .string nm, .int .i64 pk] := by rw [hW6]; exact ⟨H7.lt, H7.all⟩
            have HO6 : Hid (W6.ownsRow w3.heap.size 59 3 (.slice (some ⟨g', 0, none⟩) m cp) m (cellsA acc)) := by rw [hW6]; exact HO5
            have HB6 : Hid (Below w3.heap.size w3 W6) := by rw [hW6]; exact ybelow_drewN HB5.out _
            have c7_0 := H7.c0; have c7_1 := H7.c1; have c7_2 := H7.c2; have c7_l := H7.lt
            clear hW6 HO5 HB5
            go_wp2_with (first | (at_builtin; go_must (refine wpList_append_own _ rfl (.tmp 46) (.tmp 48) 36 rfl w3.heap.size 59 i0 (.agg #[.string ByteArray.empty, .string ByteArray.empty, .int .i64 0]) 3 40 Tryz.underlying36 J0.out Y0.out Y1.out Y2.out rfl (by decide) _ _ _ rfl (HO6.out.alloc _) ⟨W6.heap.size, 0, none⟩ 1 1 (cellA (p, nm, pk)) rfl rfl (at_news (at_new0 _ _ _)) (cellA_one _) (by simp only [maxLen]; omega) (by omega) (Nat.le_trans HB6.out.size (by simp)) ?_); intro v1 w4 ho1 hg1 hn1; clear hn1) | fail)
            have hg2 : (W6.alloc (.cells #[.string p, .string nm, .int .i64 pk] 59)).grownBy w4 (Value.slice (some ⟨g', 0, none⟩) m cp).ownBlock := hg1
            have HO2 := HO6.out.alloc (.cells #[.string p, .string nm, .int .i64 pk] 59)
            have HB4 : Hid (Below w3.heap.size w3 w4) := (HB6.out.alloc HB6.out.size _).grown hg2 (HB6.out.alloc HB6.out.size _).size (fun g' e => (HO2.lt g' e).1)
            obtain ⟨R2, cp2, rfl, _⟩ := own_slice ho1
            have HO3 := khide ho1
            clear hg1 hg2 ho1 HO2
            go_roundw
            case rel =>
              refine ⟨k + 1, cp2, m + 1, R2, acc ++ [(p, nm, pk)], by omega, by go_num, rfl, by omega, ?_, HV, HP2, ?_, HB4⟩
              · exact khide (by rw [List.length_append, ← HM.out]; rfl)
              · rw [cellsA_snoc]
                unfold Hid
                simpa using HO3.out
            case measure => simp [intOf]; omega

    · obtain rfl : k = n1 := by omega
      go_wp2
      go_ret2
      have HV := HV0.out
      rw [List.drop_eq_nil_of_le (by rw [HSL.out]; exact Nat.le_refl _)] at HV
      have hv2 : res = some acc := HV.symm
      rw [hv2]
      obtain ⟨A1, c1, e1, h1⟩ := own_slice HO.out
      injection e1 with e2 _ e3
      subst e2; subst e3
      have hm := HM.out
      subst hm
      exact ⟨R', cp, rfl, h1, own_base HO.out HBW.out.size, Bel.up HBW.out HB⟩
end Go.Proofs.YthdpojkeceoiiaaGreatDoor
end

section
/- The document's own showAtoms. Conditions: atoms that fit. -/
open Go.RowKit
set_option maxRecDepth 100000
namespace Go.Proofs.YthdpojkeceoiiaaGreatDoor
def showA (a : AL) : ByteArray := showB a.1 a.2.1 a.2.2
def showsA (l : List AL) : List ByteArray := l.map showA
/-- A row of strings that the call made. -/
def StrsO (W : World) (l : List ByteArray) (e : Ending) (w' : World) : Prop := ∃ A c, e = .returned (.slice A l.length c) ∧ (A = none → c = 0) ∧ Hid (l = [] → A = none ∧ c = 0) ∧ Hid (w'.ownsRow W.heap.size 9 1 (.slice A l.length c) l.length (l.map Value.string)) ∧ Bel W w'
theorem one_str (s : ByteArray) : ∀ u ∈ [Value.string s], u.oneCell' = true := by
  intro u hu
  simp only [List.mem_cons, List.not_mem_nil, or_false] at hu
  subst hu; rfl
theorem hinfoStr : (Tryz.prog.info? 9).map (fun i => (i.zero, i.size, i.bytes)) = some (some (.string ByteArray.empty), 1, 16) := by kernel_rfl
set_option maxHeartbeats 4000000 in
theorem rshows_any {A : Option Addr} {n c : Nat} {l : List AL} {w : World} (h : Cs w A (cellsA l)) (hn : n = l.length) (hl : n ≤ 1000000) (hs : ∀ a ∈ l, a.1.size ≤ 2000000 ∧ a.2.1.size ≤ 2000000) : Calls Tryz.prog 72 #[.slice A n c] w (StrsO w (showsA l)) := by
  have HN := khide hn
  have HS := khide hs
  obtain ⟨i0, hi, hz0, hz1, hz2⟩ := info_parts hinfoStr
  have J0 := khide hi; have Y0 := khide hz0; have Y1 := khide hz1; have Y2 := khide hz2
  clear hi hz0 hz1 hz2 hn hs
  go_enter Tryz.func72, Tryz.ntmps72
  go_wp2
  go_loopw [3, 4] (fun rv iv wr => ∃ (k cp : Nat) (R : Option Addr), k ≤ n ∧ iv = .int .i64 (k : Int) ∧ rv = .slice R k cp ∧ Hid (k = 0 → R = none ∧ cp = 0) ∧ Hid (wr.ownsRow w.heap.size 9 1 (.slice R k cp) k ((showsA (l.take k)).map Value.string)) ∧ Hid (Below w.heap.size w wr)) (fun _ iv _ => n - (intOf iv).toNat)
  case atStart => exact ⟨0, 0, none, Nat.zero_le _, rfl, rfl, fun _ => ⟨rfl, rfl⟩, World.ownsRow_nil _ _ _ _, Below.refl _ _⟩
  case round =>
    obtain ⟨k, cp, R, hk, rfl, rfl, HZ, HO, HB⟩ := hrel
    by_cases hlt : k < n
    · obtain ⟨a, ha⟩ : ∃ a, l[k]? = some a := ⟨l[k]'(by rw [← HN.out]; exact hlt), List.getElem?_eq_getElem _⟩
      obtain ⟨ad, rfl, had, a0, a1, a2⟩ := cs_at3 (h.up HB) ha
      obtain ⟨p, nm, pk⟩ := a
      have HSZ : Hid (p.size ≤ 2000000 ∧ nm.size ≤ 2000000) := HS.out _ (List.mem_of_getElem? ha)
      obtain ⟨s, hse⟩ : ∃ s, showB p nm pk = s := ⟨_, rfl⟩
      have C0 : Hid (Calls Tryz.prog 99 #[.agg #[.string p, .string nm, .int .i64 pk]] wr (StrR wr s)) := hse ▸ rshow_any HSZ.out wr
      have HX : Hid ((showsA (l.take (k + 1))).map Value.string = (showsA (l.take k)).map Value.string ++ [.string s]) := by
        obtain ⟨hx, hx2⟩ := List.getElem?_eq_some_iff.1 ha
        unfold Hid
        rw [List.take_succ_eq_append_getElem hx, hx2]
        unfold showsA
        rw [List.map_append, List.map_append]
        show _ ++ [Value.string (showB p nm pk)] = _
        rw [hse]
      have HBS : Hid (w.heap.size ≤ wr.heap.size) := HB.out.size
      have k0 : (0 : Int) ≤ (k : Int) := by omega
      have k1 : (k : Int) < (n : Int) := by omega
      clear ha hse
      go_wp2_with (first | (go_at_call 99; (with_reducible refine (C0.out).mono ?_); rintro e w2 ⟨rfl, hb2⟩) | (at_builtin; go_must (refine wpList_append_own _ rfl (.tmp 11) (.tmp 17) 23 rfl w.heap.size 9 i0 (.string ByteArray.empty) 1 16 Tryz.underlying23 J0.out Y0.out Y1.out Y2.out rfl (by decide) _ _ _ rfl ((own_up HO.out hb2).alloc _) ⟨w2.heap.size, 0, none⟩ 1 1 [.string s] rfl rfl (at_news (at_new0 _ _ _)) (one_str _) (by simp only [maxLen]; omega) (by omega) (Nat.le_trans HBS.out (Nat.le_trans hb2.out.size (by simp))) ?_); intro v1 w3 ho1 hg1 hn1; clear hn1) | fail)
      have hg2 : (w2.alloc (.cells #[.string s] 9)).grownBy w3 (Value.slice R k cp).ownBlock := hg1
      have HO2 := own_up HO.out hb2
      have HB2 : Hid (Below w.heap.size w w2) := HB.out.trans (hb2.out.mono HBS.out)
      have HB3 : Hid (Below w.heap.size w w3) := (HB2.out.alloc HB2.out.size _).grown hg2 (HB2.out.alloc HB2.out.size _).size (fun g' e => (HO2.lt g' e).1)
      obtain ⟨R2, cp2, rfl, _⟩ := own_slice ho1
      have HO3 := khide ho1
      clear hg1 hg2 ho1 HO2
      go_roundw
      case rel =>
        refine ⟨k + 1, cp2, R2, by omega, by go_num, rfl, (fun e => by omega), ?_, HB3⟩
        rw [HX.out]
        exact HO3
      case measure => simp [intOf]; omega
    · obtain rfl : k = n := by omega
      go_wp2
      go_ret
      have h3 := HO.out
      rw [List.take_of_length_le (by rw [← HN.out]; exact Nat.le_refl _)] at h3
      have e : (showsA l).length = k := by unfold showsA; rw [List.length_map, ← HN.out]
      refine ⟨R, cp, by rw [e]; rfl, ?_, fun e2 => HZ.out (by rw [← e, e2]; rfl), by rw [e]; exact h3, HB.out⟩
      obtain ⟨A1, c1, e1, h1⟩ := own_slice h3
      injection e1 with e2 _ e3
      subst e2; subst e3
      exact h1
end Go.Proofs.YthdpojkeceoiiaaGreatDoor
end
