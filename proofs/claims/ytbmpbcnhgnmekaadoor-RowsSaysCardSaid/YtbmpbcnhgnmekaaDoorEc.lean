/- rows.wordsOf: the words of a line. Conditions: lines of at most 70000 bytes. -/
import Derived.Test.YtbmpbcnhgnmekaaDoorEb
open Go.RowKit Go.Shelf
set_option maxRecDepth 100000
namespace Go.Proofs.YtbmpbcnhgnmekaaDoor
attribute [local go_sem] Oper.semAt_some
/-- What a loop that collects words has after these pieces: up to the first remark, without the empty ones. -/
def wordsIn (ps : List ByteArray) : List ByteArray := (ps.takeWhile fun p => !(p.data.toList.head? == some 35)).filter fun p => !(p.data.toList == [])
def isRemark (p : ByteArray) : Bool := p.data.toList.head? == some 35
section
variable {ps : List ByteArray} {k : Nat} {p : ByteArray}
theorem wordsIn_snoc (h : ∀ q ∈ ps, isRemark q = false) : wordsIn (ps ++ [p]) = if isRemark p = true ∨ p.data.toList = [] then wordsIn ps else wordsIn ps ++ [p] := by
  have h1 : ∀ q ∈ ps, (!(q.data.toList.head? == some 35)) = true := fun q hq => by have := h q hq; unfold isRemark at this; rw [this]; rfl
  unfold wordsIn
  rw [List.takeWhile_append_of_pos h1]
  have h2 : ps.takeWhile (fun p => !(p.data.toList.head? == some 35)) = ps := by
    have := List.takeWhile_append_of_pos (l₂ := []) h1
    simpa using this
  rw [h2, List.filter_append]
  by_cases hr : isRemark p = true
  · rw [if_pos (.inl hr)]
    unfold isRemark at hr
    simp [List.takeWhile, hr]
  · have hr' : (p.data.toList.head? == some 35) = false := by unfold isRemark at hr; simpa using hr
    by_cases he : p.data.toList = []
    · rw [if_pos (.inr he)]
      have he' : p.data = #[] := by simpa using he
      simp [List.takeWhile, hr', he']
    · rw [if_neg (by intro h; rcases h with h | h; (· exact hr h); (· exact he h))]
      have he' : ¬ p.data = #[] := fun h => he (by rw [h])
      simp [List.takeWhile, hr', he']
theorem wordsIn_stop {qs : List ByteArray} (h : ∀ q ∈ ps, isRemark q = false) (hp : isRemark p = true) : wordsIn (ps ++ p :: qs) = wordsIn ps := by
  have h1 : ∀ q ∈ ps, (!(q.data.toList.head? == some 35)) = true := fun q hq => by have := h q hq; unfold isRemark at this; rw [this]; rfl
  unfold wordsIn
  rw [List.takeWhile_append_of_pos h1]
  have h2 : ps.takeWhile (fun p => !(p.data.toList.head? == some 35)) = ps := by
    have := List.takeWhile_append_of_pos (l₂ := []) h1
    simpa using this
  unfold isRemark at hp
  rw [h2]
  simp [List.takeWhile, hp]
theorem remark_prefix (p : ByteArray) : Lib.hasPrefix p.data.toList (⟨#[35]⟩ : ByteArray).data.toList = isRemark p := by
  unfold Lib.hasPrefix isRemark
  cases h : p.data.toList with
  | nil => rfl
  | cons a l =>
    have h1 : ([35] : List UInt8).isPrefixOf (a :: l) = (35 == a) := by simp [List.isPrefixOf]
    have h2 : ((35 : UInt8) == a) = (a == 35) := by rw [Bool.eq_iff_iff, beq_iff_eq, beq_iff_eq]; exact eq_comm
    exact h1.trans h2
theorem wordsIn_le : (wordsIn ps).length ≤ ps.length := Nat.le_trans (List.length_filter_le _ _) (List.takeWhile_sublist _).length_le
end
/-- The words of a line. -/
def wordsB (s : ByteArray) : List ByteArray := wordsIn (pieces 32 s)
set_option maxHeartbeats 1000000 in
theorem splitseq_in {s : ByteArray} (n : Nat) (w : World) :
    CallsIn Fence.wide n Tryd.prog 26 #[.string s, .string ⟨#[32]⟩] w fun e w' => e = .returned (.func (.func 42) #[] #[.pointer (some ⟨w.heap.size + 1, 0, none⟩), .pointer (some ⟨w.heap.size, 0, none⟩), .pointer (some ⟨w.heap.size + 1 + 1, 0, none⟩)]) ∧ w' = ((w.alloc (.cells #[.string s] 9)).alloc (.cells #[.string ⟨#[32]⟩] 9)).alloc (.cells #[.int .i64 0] 3) := by
  have CS : Hid (∀ V : World, CallsIn Fence.wide (n - 1) Tryd.prog 34 #[.string s, .string ⟨#[32]⟩, .int .i64 0] V fun e w' => e = .returned (.func (.func 42) #[] #[.pointer (some ⟨V.heap.size + 1, 0, none⟩), .pointer (some ⟨V.heap.size, 0, none⟩), .pointer (some ⟨V.heap.size + 1 + 1, 0, none⟩)]) ∧ w' = ((V.alloc (.cells #[.string s] 9)).alloc (.cells #[.string ⟨#[32]⟩] 9)).alloc (.cells #[.int .i64 0] 3)) := fun V => by
    refine callsIn_of_wp Tryd.func34 rfl trivial ?_ rfl
    simp only [Tryd.ntmps34, List.size_toArray, List.length_cons, List.length_nil, Nat.reduceAdd, Nat.reduceSub, Array.replicate_succ, Array.replicate_zero, List.push_toArray, List.append_toArray, List.nil_append, List.cons_append]
    gi_wp2
    go_ret
    exact ⟨rfl, rfl⟩
  refine callsIn_of_wp Tryd.func26 rfl trivial ?_ rfl
  simp only [Tryd.ntmps26, List.size_toArray, List.length_cons, List.length_nil, Nat.reduceAdd, Nat.reduceSub, Array.replicate_succ, Array.replicate_zero, List.push_toArray, List.append_toArray, List.nil_append, List.cons_append]
  gi_wp2_with (refine ⟨trivial, fun h => (by cases h), ?_⟩; gi_at_call 34; refine (CS.out _).mono ?_; rintro e w' ⟨rfl, hw⟩; rw [hw])
  go_ret
  exact ⟨rfl, rfl⟩
theorem infoStrE : (Tryd.prog.info? 9).map (fun i => (i.zero, i.size, i.bytes)) = some (some (.string ByteArray.empty), 1, 16) := by kernel_rfl
/-- What wordsOf leaves. -/
def WordsR (w : World) (s : ByteArray) (e : Ending) (w' : World) : Prop :=
  ∃ A c, e = .returned (.slice A (wordsB s).length c) ∧ (A = none → c = 0) ∧ Hid (w'.ownsRow w.heap.size 9 1 (.slice A (wordsB s).length c) (wordsB s).length ((wordsB s).map Value.string)) ∧ Hid (Below w.heap.size w w')
section
variable {W w1 : World} {base base' B k m : Nat} {t e : TypeId} {v v' : Value} {xs ys : List Value} {tmp : Obj}
theorem own_less {sz : Nat} (h : W.ownsRow base e sz v k xs) (hb : base' ≤ base) : W.ownsRow base' e sz v k xs :=
  ⟨h.1, h.2.imp id fun ⟨g, cap, cur, a, b, c⟩ => ⟨g, cap, cur, a, by omega, c⟩⟩
/-- 'words = append(words, ..)' where the box lies below the row's base. -/
theorem collected (hv : Boxed W B t v) (hte : t ≠ e) (hrow : W.ownsRow base e 1 v k xs) (hn : base ≤ W.heap.size) (hB : base' ≤ B) (hb : base' ≤ base)
    (hown' : w1.ownsRow base e 1 v' m ys) (hgrow : (W.alloc tmp).grownBy w1 v.ownBlock) :
    Boxed w1 B t v ∧ Boxed (w1.setCell ⟨B, 0, none⟩ v') B t v' ∧ (w1.setCell ⟨B, 0, none⟩ v').ownsRow base e 1 v' m ys ∧ KeepsOthers W (w1.setCell ⟨B, 0, none⟩ v') ∧ Below base' W (w1.setCell ⟨B, 0, none⟩ v') ∧
    ∀ i, i < base → i ≠ B → (w1.setCell ⟨B, 0, none⟩ v').heap[i]? = W.heap[i]? := by
  obtain ⟨h1, h2, _, h4, h5⟩ := hv.appended hte (own_less hrow hb) (by omega) hB (own_less hown' hb) hgrow
  refine ⟨h1, h2, hown'.kept (grownBy_setCell' w1 B v') (.inr (h1.not_row hte hown').symm), h4, h5, fun i hi hne => ?_⟩
  have hs : (W.alloc tmp).heap.size = W.heap.size + 1 := by simp
  refine (Below.heap_setCell _ _ _ i (by show i ≠ B; exact hne)).trans ((hgrow.block i (by omega) (fun e' => ?_)).trans (Below.heap_alloc W tmp i (by omega)))
  have := (hrow.lt i e'.symm).1
  omega
end
section
variable {V V' : World} {row : Option Nat} {B M n base b : Nat} {t e : TypeId} {v u : Value} {xs : List Value}
theorem held_own (hv : Boxed V B t v) (hr : V.ownsRow base e 1 v n xs) (hg : V.grownBy V' row) (hrow : ∀ r, row = some r → M ≤ r ∧ ∃ o : Obj, V.heap[r]? = some o ∧ o.isCells = false) (hB : B < M) : Boxed V' B t v ∧ V'.ownsRow base e 1 v n xs := by
  refine ⟨hv.kept hg fun h => ?_, hr.kept hg ?_⟩
  · have := (hrow _ h.symm).1; omega
  · rcases hr.2 with ⟨rfl, _⟩ | ⟨g, cap, cur, rfl, _, hgb, _⟩
    · exact .inl rfl
    · refine .inr fun h => ?_
      obtain ⟨_, o, ho, hc⟩ := hrow g (by simpa [Value.ownBlock] using h.symm)
      rw [hgb] at ho; cases ho; cases hc
theorem held_set (hv : Boxed V B t v) (hr : V.ownsRow base e 1 v n xs) (h1 : B ≠ b) (h2 : b < base) (u : Value) : Boxed (V.setCell ⟨b, 0, none⟩ u) B t v ∧ (V.setCell ⟨b, 0, none⟩ u).ownsRow base e 1 v n xs := by
  refine ⟨hv.kept (grownBy_setCell' V b u) (by simpa using h1), hr.kept (grownBy_setCell' V b u) ?_⟩
  cases hk : v.ownBlock with
  | none => exact .inl rfl
  | some k =>
    right
    have := (hr.lt k hk).1
    simp; omega
end
/-- The slice of words, once the loop has ended. -/
theorem words_end {w V : World} {s : ByteArray} {v : Value} {D base : Nat} {o : Obj} (hrow : V.ownsRow base 9 1 v (wordsB s).length ((wordsB s).map Value.string)) (hB : Below w.heap.size w V) (hD : w.heap.size ≤ D) (hK : V.heap[D]? = some o) (ho : o.isCells = false) (o' : Obj) (hb : w.heap.size ≤ base) :
    WordsR w s (.returned v) (V.putObj D o') := by
  have h1 := ownsRow_putObj hrow o' hK ho
  have hB1 : Hid (Below w.heap.size w (V.putObj D o')) := hB.grown (grownBy_putObj' V D o') hB.size (fun k e => by cases e; exact hD)
  rcases h1.2 with ⟨rfl, h0⟩ | ⟨g, cap, cur, rfl, _⟩
  · exact ⟨none, 0, by rw [h0], fun _ => rfl, by rw [h0] at h1 ⊢; exact own_less h1 hb, hB1⟩
  · exact ⟨_, cap, rfl, (fun h => by cases h), own_less h1 hb, hB1⟩
set_option maxHeartbeats 4000000 in
theorem wordsOf_any {s : ByteArray} (hs : s.size ≤ 70000) (w : World) : Calls Tryd.prog 17 #[.string s] w (WordsR w s) := by
  refine (callsIn_wide (n := 9)).1 ?_
  obtain ⟨i0, hi, hz0, hz1, hz2⟩ := info_parts infoStrE
  have CS : Hid (∀ V : World, CallsIn Fence.wide 8 Tryd.prog 26 #[.string s, .string ⟨#[32]⟩] V fun e w' => e = .returned (.func (.func 42) #[] #[.pointer (some ⟨V.heap.size + 1, 0, none⟩), .pointer (some ⟨V.heap.size, 0, none⟩), .pointer (some ⟨V.heap.size + 1 + 1, 0, none⟩)]) ∧ w' = ((V.alloc (.cells #[.string s] 9)).alloc (.cells #[.string ⟨#[32]⟩] 9)).alloc (.cells #[.int .i64 0] 3)) := fun V => splitseq_in 8 V
  refine callsIn_of_wp_marks Tryd.func17 rfl trivial ?_ rfl
  simp only [Tryd.ntmps17, List.size_toArray, List.length_cons, List.length_nil, Nat.reduceAdd, Nat.reduceSub, Array.replicate_succ, Array.replicate_zero, List.push_toArray, List.append_toArray, List.nil_append, List.cons_append]
  gi_wp2_with (refine ⟨trivial, ?_⟩; gi_at_call 26; refine (CS.out _).mono ?_; rintro e w' ⟨rfl, hw⟩; rw [hw]; clear hw)
  obtain ⟨W0, hW0⟩ : ∃ W0, W0 = (((w.alloc (.cells #[.slice none 0 0] 29)).alloc (.cells #[.string s] 9)).alloc (.cells #[.string ⟨#[32]⟩] 9)).alloc (.cells #[.int .i64 0] 3) := ⟨_, rfl⟩
  rw [← hW0]
  have hsz : W0.heap.size = w.heap.size + 4 := by rw [hW0]; simp
  have b0 : Boxed W0 w.heap.size 29 (.slice none 0 0) := by rw [hW0]; exact (((Boxed.new w _ _).alloc _).alloc _).alloc _
  have b3 : Box3 W0 (w.heap.size + 1) 32 s := by
    have h1 := ((Boxed.new (w.alloc (.cells #[.slice none 0 0] 29)) 9 (.string s)).alloc (.cells #[.string ⟨#[32]⟩] 9)).alloc (.cells #[.int .i64 0] 3)
    have h2 := (Boxed.new ((w.alloc (.cells #[.slice none 0 0] 29)).alloc (.cells #[.string s] 9)) 9 (.string ⟨#[32]⟩)).alloc (.cells #[.int .i64 0] 3)
    have h3 := Boxed.new (((w.alloc (.cells #[.slice none 0 0] 29)).alloc (.cells #[.string s] 9)).alloc (.cells #[.string ⟨#[32]⟩] 9)) 3 (.int .i64 0)
    simp only [World.size_alloc] at h1 h2 h3
    rw [hW0]
    exact ⟨h1, h2, h3⟩
  have hB0 : Below w.heap.size w W0 := by rw [hW0]; exact ((((Below.refl _ w).alloc (Nat.le_refl _) _).alloc (by simp) _).alloc (by simp; omega) _).alloc (by simp; omega) _
  clear hW0 CS
  obtain ⟨xs, hxs⟩ : ∃ xs, xs = pieces 32 s := ⟨_, rfl⟩
  have hSQ := seq_at (n := 8) b3 (by omega)
  rw [← hxs] at hSQ
  have HXS := ehide hxs
  have HLEN : Hid (xs.length ≤ 70001) := by
    have := pieces_len (c := 32) (s := s)
    rw [hxs]; unfold Hid; omega
  clear hxs
  refine wpIn_range_at (gf := 42) (lb := #[.pointer (some ⟨w.heap.size + 1 + 1, 0, none⟩), .pointer (some ⟨w.heap.size + 1, 0, none⟩), .pointer (some ⟨w.heap.size + 1 + 1 + 1, 0, none⟩)]) rfl (by decide) rfl trivial (enters_of Tryd.func42 (by kernel_rfl) rfl) (B := w.heap.size + 1) (by omega) (Kp := Keep3 (w.heap.size + 1)) (xs := xs) hSQ rfl
    (fun V V' h i hi => h _ (by omega)) (fun h h' => h.trans h')
    (fun k V => (∀ q ∈ xs.take k, isRemark q = false) ∧ (∃ v, Boxed V w.heap.size 29 v ∧ V.ownsRow (w.heap.size + 4) 9 1 v (wordsIn (xs.take k)).length ((wordsIn (xs.take k)).map Value.string)) ∧ Below w.heap.size w V)
    (fun c _ V => c = .exit 0 ∧ (∃ v, Boxed V w.heap.size 29 v ∧ V.ownsRow (w.heap.size + 4) 9 1 v (wordsB s).length ((wordsB s).map Value.string)) ∧ Below w.heap.size w V)
    ?hI ?hIx ?hIB ⟨by simp, ⟨_, b0, World.ownsRow_nil _ _ _ _⟩, hB0⟩
    (fun x => { tmps := #[.string s, undef, .slice none 0 0, .pointer (some ⟨w.heap.size, 0, none⟩), .string x, .string s, .func (.func 42) #[] #[.pointer (some ⟨w.heap.size + 1 + 1, 0, none⟩), .pointer (some ⟨w.heap.size + 1, 0, none⟩), .pointer (some ⟨w.heap.size + 1 + 1 + 1, 0, none⟩)], .string x, undef, undef, undef, undef, undef, undef, undef, undef, undef], defers := [] }) ?assign ?body ?done ?stop
  case hI =>
    rintro k V V' row ⟨h1, ⟨v, hv, hr⟩, hB⟩ hg hrow
    obtain ⟨h2, h3⟩ := held_own hv hr hg hrow (by omega)
    exact ⟨h1, ⟨v, h2, h3⟩, hB.grown hg hB.size (fun r e => by have := (hrow r e).1; omega)⟩
  case hIx =>
    rintro c k V V' row ⟨h1, ⟨v, hv, hr⟩, hB⟩ hg hrow
    obtain ⟨h2, h3⟩ := held_own hv hr hg hrow (by omega)
    exact ⟨h1, ⟨v, h2, h3⟩, hB.grown hg hB.size (fun r e => by have := (hrow r e).1; omega)⟩
  case hIB =>
    rintro k V u ⟨h1, ⟨v, hv, hr⟩, hB⟩
    obtain ⟨h2, h3⟩ := held_set hv hr (b := w.heap.size + 1) (by omega) (by omega) u
    exact ⟨h1, ⟨v, h2, h3⟩, hB.setCell (p := ⟨w.heap.size + 1, 0, none⟩) (by show w.heap.size ≤ w.heap.size + 1; omega) _⟩
  case assign =>
    intro l x V K hK
    gi_wp2
    exact hK
  case body =>
    rintro l k x V ⟨hrem, ⟨v, hv, hrow⟩, hB⟩ hx hVs
    obtain ⟨b, hb⟩ : ∃ b, isRemark x = b := ⟨_, rfl⟩
    have CP : Hid (∀ V : World, CallsIn Fence.wide 6 Tryd.prog 27 #[.string x, .string ⟨#[35]⟩] V fun e w' => e = .returned (.bool b) ∧ w' = V) := fun V => by
      have h1 := Tryd.strings_HasPrefix x ⟨#[35]⟩ V
      rw [remark_prefix, hb] at h1
      exact callsIn_wide.2 h1
    have hxk := (List.getElem?_eq_some_iff.1 hx).1
    have htk : xs.take (k + 1) = xs.take k ++ [x] := by
      rw [List.take_succ_eq_append_getElem hxk, (List.getElem?_eq_some_iff.1 hx).2]
    have hc := hv.cell
    cases b
    · have hn : ∀ q ∈ xs.take (k + 1), isRemark q = false := by
        rw [htk]; intro q hq
        rcases List.mem_append.1 hq with hq | hq
        · exact hrem q hq
        · rw [List.mem_singleton.1 hq]; exact hb
      have hwi := wordsIn_snoc (p := x) hrem
      rw [← htk] at hwi
      by_cases he : x.data.toList = []
      · rw [if_pos (.inr he)] at hwi
        obtain rfl : x = ⟨#[]⟩ := bytes_eq he
        clear hx hb
        gi_wp2_with (refine ⟨trivial, ?_⟩; gi_at_call 27; refine (CallsIn.inRound l (CP.out _)).mono ?_; rintro e w' ⟨rfl, rfl⟩)
        exact ⟨KeepsOthers.refl _, fun _ _ => rfl, hn, ⟨v, hv, by rw [hwi]; exact hrow⟩, hB⟩
      · rw [if_neg (fun h => h.elim (fun h => by rw [hb] at h; cases h) he)] at hwi
        have hl : x.toList.isEmpty = false := by
          rw [Lib.toList_data]
          cases h : x.data.toList with
          | nil => exact absurd h he
          | cons a l => rfl
        have hwl : (wordsIn (xs.take k)).length ≤ 70001 := by
          have h1 := wordsIn_le (ps := xs.take k)
          have h2 : (xs.take k).length ≤ xs.length := by rw [List.length_take]; omega
          have h3 := HLEN.out
          omega
        clear hx hb he
        gi_wp2_with (first | (refine ⟨trivial, ?_⟩; gi_at_call 27; refine (CallsIn.inRound l (CP.out _)).mono ?_; rintro e w' ⟨rfl, rfl⟩) | (gi_at_builtin; refine wpListIn_append_own _ rfl _ _ 29 rfl (w.heap.size + 4) 9 i0 (.string ByteArray.empty) 1 16 Tryd.underlying29 hi hz0 hz1 hz2 rfl (by decide) _ _ _ rfl (hrow.alloc _) ⟨w'.heap.size, 0, none⟩ 1 1 [.string x] rfl rfl (cell_one_new _ _ _) (by simp [Value.oneCell']) (by simp only [maxLen]; omega) (by omega) (by simp; omega) ?_; intro v' w1 hown' hgrow _; obtain ⟨g', cap', rfl⟩ := ownsRow_succ hown'; obtain ⟨hv1, hv2, hr2, hk2, hb2, hl2⟩ := collected hv (by decide) hrow (by omega) (Nat.le_refl w.heap.size) (by omega) hown' hgrow; have hc1 := hv1.cell; have hf1 := hv1.frozen))
        exact ⟨hk2, fun i hi => hl2 _ (by omega) (by omega), hn, ⟨_, hv2, by rw [hwi]; simpa using hr2⟩, hB.trans hb2⟩
    · have hw : wordsB s = wordsIn (xs.take k) := by
        have h1 : xs = xs.take k ++ x :: xs.drop (k + 1) := by
          conv => lhs; rw [← List.take_append_drop k xs]
          rw [List.drop_eq_getElem_cons hxk, (List.getElem?_eq_some_iff.1 hx).2]
        unfold wordsB
        rw [← HXS.out]
        conv => lhs; rw [h1]
        exact wordsIn_stop hrem hb
      clear hx hb htk
      gi_wp2_with (refine ⟨trivial, ?_⟩; gi_at_call 27; refine (CallsIn.inRound l (CP.out _)).mono ?_; rintro e w' ⟨rfl, rfl⟩)
      exact ⟨KeepsOthers.refl _, rfl, ⟨v, hv, by rw [hw]; exact hrow⟩, hB⟩
  case done =>
    rintro D V hD ⟨hrem, ⟨v, hv, hrow⟩, hB⟩ hK
    have hw : wordsIn (xs.take xs.length) = wordsB s := by rw [List.take_length]; unfold wordsB; rw [← HXS.out]
    rw [hw] at hrow
    have hc := hv.cell
    gi_wp2
    refine ⟨by simp, .inl ⟨_, _, rfl, run_takeDeferred hK, ?_⟩⟩
    refine ⟨_, results_tmp rfl _ _ _, ?_⟩
    exact words_end hrow hB (by omega) hK rfl _ (by omega)
  case stop =>
    rintro D c k V hD ⟨rfl, ⟨v, hv, hrow⟩, hB⟩ hK
    have hc := hv.cell
    gi_wp2
    refine ⟨by simp, .inl ⟨_, _, rfl, run_takeDeferred hK, ?_⟩⟩
    refine ⟨_, results_tmp rfl _ _ _, ?_⟩
    exact words_end hrow hB (by omega) hK rfl _ (by omega)
end Go.Proofs.YtbmpbcnhgnmekaaDoor
