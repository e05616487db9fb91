/- Several texts in one, each with its own sentence and conditions. -/
import Derived.Test.YteieelgdiccppaaDoorGNkc17
import Derived.Maps.AppendAt
import Derived.Test.YteieelgdiccppaaDoorGNkc9
import Derived.Test.YteieelgdiccppaaDoorGcd
import Derived.Test.YteieelgdiccppaaDoorGNkc10
import Derived.Test.YteieelgdiccppaaDoorZd
section
/- Words for the document's own division: the reckoning, and append of any slice that reads as a list. No conditions. -/
open Go.RowKit
set_option maxRecDepth 100000
namespace Go.Proofs.YteieelgdiccppaaDoor
section
variable {P : Program} {w : World}
/-- Of a nil slice append adds nothing. -/
theorem app_nil (base : Nat) (t ty e : TypeId) (i : TypeInfo) (size : Nat) (ht : P.underlying t = some (.slice e)) (hi : P.info? e = some i)
    (v : Value) (n : Nat) (xs : List Value) (hown : w.ownsRow base e size v n xs) (c : Nat) : (Builtin.append_ #[t, t] ty #[v, .slice none 0 c]).run P w = .ok v w := by
  rcases hown.2 with ⟨rfl, rfl⟩ | ⟨g, cap, cur, rfl, _, _, hnc, _⟩
  · simp [Builtin.append_, run_underlying ht, sizeOf, typeInfo, hi, Builtin.lenOf, Builtin.firstCells]
  · simp [Builtin.append_, run_underlying ht, sizeOf, typeInfo, hi, Builtin.lenOf, Builtin.firstCells, hnc, storeCells]
theorem app_run {f : Nat → Value} (hf : ∀ x, (f x).oneCell' = true) (base : Nat) (t ty e : TypeId) (i : TypeInfo) (z : Value) (bytes : Nat) (ht : P.underlying t = some (.slice e)) (hi : P.info? e = some i) (hz : i.zero = some z)
    (hsize : i.size = 1) (hby : i.bytes = bytes) (hzs : z.cells.size = 1) {v : Value} {n : Nat} {xs : List Value} (hown : w.ownsRow base e 1 v n xs)
    {B : Nat} {A : Option Addr} {m c : Nat} {ws : List Nat} (hm : m = ws.length) (hr : Rd f w B A ws) (h63 : n + m ≤ maxLen) (hbytes : (n + m) * bytes ≤ 140737488355328) (hbase : base ≤ w.heap.size) :
    ∃ v' w', (Builtin.append_ #[t, t] ty #[v, .slice A m c]).run P w = .ok v' w' ∧ w'.ownsRow base e 1 v' (n + m) (xs ++ ws.map f) ∧ w.grownBy w' v.ownBlock ∧ (v'.ownBlock = v.ownBlock ∨ v'.ownBlock = some w.heap.size) := by
  subst hm
  by_cases h0 : ws = []
  · subst h0
    cases A with
    | none => exact ⟨v, w, app_nil base t ty e i 1 ht hi v n xs hown c, by simpa using hown, World.grownBy.refl w _, .inl rfl⟩
    | some ad =>
      obtain ⟨v', w', h1, h2, h3, _, h5⟩ := run_append_own_at (P := P) w base t ty e i z 1 bytes ht hi hz hsize hby hzs (by decide) v n xs hown ad 0 c [] (by simp) (by simp) (by simp) h63 hbytes hbase
      exact ⟨v', w', h1, by simpa using h2, h3, h5⟩
  · obtain ⟨ad, rfl, _, hc⟩ := hr (List.length_pos_iff.2 h0)
    obtain ⟨v', w', h1, h2, h3, _, h5⟩ := run_append_own_at (P := P) w base t ty e i z 1 bytes ht hi hz hsize hby hzs (by decide) v n xs hown ad ws.length c (ws.map f) (by simp) (fun j u hu => by
      rw [List.getElem?_map] at hu
      cases hj : ws[j]? with
      | none => rw [hj] at hu; cases hu
      | some x => rw [hj] at hu; injection hu with hu; rw [← hu]; exact hc j x hj) (by intro u hu; obtain ⟨x, _, rfl⟩ := List.mem_map.1 hu; exact hf x) h63 hbytes hbase
    exact ⟨v', w', h1, h2, h3, h5⟩
theorem wpList_app {f : Nat → Value} (hf : ∀ x, (f x).oneCell' = true) {ops : Array Oper} {rest : List Oper} {o : Oper} {a : Act} {Q : Exit → Act → World → Prop} (hgd : o.guard = none) (s x : Operand) (t : TypeId)
    (ho : o.op = .call { callee := .builtin .append, args := #[s, x], argTypes := #[t, t] }) (base : Nat) (e : TypeId) (i : TypeInfo) (z : Value) (bytes : Nat) (ht : P.underlying t = some (.slice e)) (hi : P.info? e = some i) (hz : i.zero = some z)
    (hsize : i.size = 1) (hby : i.bytes = bytes) (hzs : z.cells.size = 1) {v : Value} {n : Nat} {xs : List Value} (hs : a.eval s = v) (hown : w.ownsRow base e 1 v n xs)
    {B : Nat} {A : Option Addr} {m c : Nat} {ws : List Nat} (hx : a.eval x = .slice A m c) (hm : m = ws.length) (hr : Rd f w B A ws) (h63 : n + m ≤ maxLen) (hbytes : (n + m) * bytes ≤ 140737488355328) (hbase : base ≤ w.heap.size)
    (h : ∀ v' w', w'.ownsRow base e 1 v' (n + m) (xs ++ ws.map f) → w.grownBy w' v.ownBlock → (v'.ownBlock = v.ownBlock ∨ v'.ownBlock = some w.heap.size) → wpList P ops Q rest (a.put o.dst v') w') : wpList P ops Q (o :: rest) a w := by
  refine wpList_plain hgd fun K hK => ?_
  obtain ⟨v', w', h1, h2, h3, h4⟩ := app_run (P := P) hf base t o.type e i z bytes ht hi hz hsize hby hzs hown hm hr h63 hbytes hbase
  unfold Oper.wp execOp
  simp only [ho, resolve, invoke, builtin, Sem.run_bind, Sem.run_pure, Result.andThen_ok, List.map_toArray, List.map_cons, List.map_nil, hs, hx]
  rw [h1]
  exact hK _ _ (h v' w' h2 h3 h4)
end
/-- One digit of the quotient. -/
theorem rdiv_digit {n r x : Nat} (hr : r < n) (hx : x ≤ 9999) : (x + D4 * r) / n ≤ 9999 ∧ (x + D4 * r) - n * ((x + D4 * r) / n) < n ∧ n * ((x + D4 * r) / n) ≤ x + D4 * r := by
  have h0 : 0 < n := by omega
  have h1 : (x + D4 * r) / n < 10000 := by
    rw [Nat.div_lt_iff_lt_mul h0]
    have : D4 * (r + 1) ≤ 10000 * n := Nat.mul_le_mul (by decide) hr
    rw [Nat.mul_add, D4_eq] at this
    rw [D4_eq]; omega
  have h2 := Nat.div_add_mod (x + D4 * r) n
  have h3 := Nat.mod_lt (x + D4 * r) h0
  omega
theorem rdiv_step {n H r x M t r' : Nat} (hM : M = n * H + r) (ht : n * t + r' = x + D4 * r) : x + D4 * M = n * (t + D4 * H) + r' := by
  have e1 : n * (t + D4 * H) = n * t + D4 * (n * H) := by rw [Nat.mul_add, Nat.mul_left_comm]
  rw [hM, e1, Nat.mul_add]; omega
theorem rdiv_end {m n Q r : Nat} (hM : m = n * Q + r) (hr : r < n) : m / n = Q ∧ m % n = r := by
  exact (Nat.div_mod_unique (a := m) (b := n) (by omega)).2 ⟨by rw [hM, Nat.add_comm], hr⟩
theorem zeros_set {hi : List Nat} {i v : Nat} : (List.replicate (i + 1) 0 ++ hi).set i v = List.replicate i 0 ++ (v :: hi) := by
  rw [List.replicate_succ']
  rw [List.append_assoc, List.set_append_right _ _ (by simp)]
  simp
theorem val_drop_lt {m top : Nat} (h : top ≤ dq m) : val D4 ((digs D4 m).drop top) < D4 ^ (dq m - top) := by
  have := val_lt ((digs D4 m).drop top) (fun x hx => good4_digs m x (List.mem_of_mem_drop hx))
  rwa [List.length_drop] at this
/-- The bisection's step. -/
theorem bis_le {n s t : Nat} (h0 : 0 < n) : n * s ≤ t ↔ s ≤ t / n := by rw [Nat.mul_comm]; exact (Nat.le_div_iff_mul_le h0).symm
end Go.Proofs.YteieelgdiccppaaDoor
end

section
/- The document's own numbers: Div. Conditions: at most 100000 fours of digits, a divisor above 0. -/
open Go.RowKit
set_option maxRecDepth 100000
namespace Go.Proofs.YteieelgdiccppaaDoor
def RDivR (w : World) (q r : Nat) (e : Ending) (w' : World) : Prop :=
  ∃ A c A' c', e = .returned (.tuple #[.slice A (dq q) c, .slice A' (dq r) c']) ∧ Hid (RN w' w'.heap.size A c q) ∧ Hid (RN w' w'.heap.size A' c' r) ∧ Hid (Below w.heap.size w w')
theorem rn_nil (w : World) (B : Nat) (A : Option Addr) (c : Nat) : RN w B A c 0 := ⟨by rw [dq_zero]; exact Nat.zero_le _, by rw [digs_zero]; exact Rd.nil⟩
set_option maxHeartbeats 2000000 in
theorem rDiv_short {A A' : Option Addr} {m n c c' : Nat} {w : World} (h : RN w w.heap.size A c m) (hl : dq m ≤ 100000) (hl' : dq n ≤ 100000) (hs : dq m + 1 < dq n) :
    Calls Tryd.prog 93 #[.slice A (dq m) c, .slice A' (dq n) c'] w (RDivR w (m / n) (m % n)) := by
  have hmn : m < n := digs_len_lt (b := D4) (by decide) (show dq m < dq n by omega)
  have HX := hide h
  rw [Nat.div_eq_of_lt hmn, Nat.mod_eq_of_lt hmn]
  obtain ⟨k, hk⟩ : ∃ k : Int, (dq m : Int) - (dq n : Int) + 1 = k := ⟨_, rfl⟩
  have h0 : k < 0 := by omega
  clear h hmn
  go_enter Tryd.func93, Tryd.ntmps93
  go_wp2_with (first | (at_make; go_must (refine wpList_ints rfl _ _ rfl (dq m) _ rfl rfl (by omega) (by omega) ?_; intro g w1 hg hb1 hbel)))
  refine bodyPost_ret (v := .tuple #[.slice none 0 0, .slice A (dq m) c]) (by simp [results, Tryd.results93, go_sem]) rfl ?_
  exact ⟨none, 0, A, c, by rw [dq_zero], rn_nil _ _ _ _, (HX.out.below hbel).more hbel.size, hbel⟩
theorem slice_from (t e : TypeId) (i : TypeInfo) (ht : Tryd.prog.underlying t = some (.slice e)) (hi : Tryd.prog.info? e = some i) (hs : i.size = 1) (A : Option Addr) {n c k : Nat} (hk : k ≤ n) (W : World) :
    (Instr.sliceAt t (.slice A n c) (some (.int .i64 (k : Int))) none none).run Tryd.prog W = .ok (.slice (if c = k then A else A.map (·.add k)) (n - k) (c - k)) W := by
  have he : Tryd.prog.elem t = e := by simp [Program.elem, ht]
  have h2 : Tryd.prog.underlying t = some (.slice (Tryd.prog.elem t)) := by rw [he]; exact ht
  rw [run_sliceAt_slice W t _ _ _ _ h2, run_slice_l W t A n c h2 .i64 (k : Int) (by omega) (by omega), he]
  simp [sizeOf, typeInfo, hi, hs, sliced, Result.andThen]
/-- The row that append leaves, read as a list. -/
theorem row_own {w : World} {base n : Nat} {t : TypeId} {v : Value} {xs : List Value} {f : Nat → Value} {dd : List Nat} (h : w.ownsRow base t 1 v n xs) (hn : n = dd.length) (hx : xs = dd.map f) :
    ∃ A c, v = .slice A n c ∧ n ≤ c ∧ Rd f w w.heap.size A dd ∧ (∀ ad, A = some ad → v.ownBlock = some ad.block) := by
  subst hn; subst hx
  obtain ⟨A, c, rfl, h1, h2⟩ := row_rd h
  exact ⟨A, c, rfl, h1, h2, fun ad e => by subst e; rfl⟩
theorem RN.set {w : World} {B : Nat} {A : Option Addr} {c m g i : Nat} (h : RN w B A c m) (hg : ∀ ad, A = some ad → ad.block ≠ g) (u : Value) : RN (w.setCell ⟨g, i, none⟩ u) B A c m := by
  refine ⟨h.1, fun hn => ?_⟩
  obtain ⟨ad, e, hb, hx⟩ := h.2 hn
  refine ⟨ad, e, hb, fun j x hj => ?_⟩
  rw [World.cell?_setCell_other w ⟨g, i, none⟩ _ u (by intro e2; exact hg ad e (by rw [← block_add ad j, ← e2]))]
  exact hx j x hj
theorem dq_mul_le {n s : Nat} (hl : dq n ≤ 100000) (hs : s ≤ 9999) : dq (n * s) ≤ 1000000 := by
  have h1 : n < D4 ^ dq n := lt_pow_digs (b := D4) (by decide) n
  have h2 : n * s < D4 ^ (dq n + 1) := by
    rw [Nat.pow_succ]
    exact Nat.lt_of_le_of_lt (Nat.mul_le_mul_left n (show s ≤ D4 by rw [D4_eq]; omega)) (Nat.mul_lt_mul_of_pos_right h1 (by decide))
  have := dq_le h2
  omega
theorem dq_step {n r x : Nat} (hl : dq n ≤ 99999) (hr : r < n) (hx : x ≤ 9999) : dq (x + D4 * r) ≤ 100000 := by
  have h1 : n < D4 ^ dq n := lt_pow_digs (b := D4) (by decide) n
  have h2 : x + D4 * r < D4 ^ (dq n + 1) := by
    rw [Nat.pow_succ]
    generalize D4 ^ dq n = P at h1
    have h3 : (r + 1) * 10000 ≤ P * 10000 := Nat.mul_le_mul_right _ (by omega)
    rw [D4_eq]
    omega
  have := dq_le h2
  omega
set_option maxHeartbeats 8000000 in
theorem rDiv_long {A A' : Option Addr} {m n c c' top : Nat} {w : World} (h : RN w w.heap.size A c m) (h' : RN w w.heap.size A' c' n) (hl : dq m ≤ 99999) (hl' : dq n ≤ 99999) (hn : 0 < n) (ht : top + dq n = dq m + 1) :
    Calls Tryd.prog 93 #[.slice A (dq m) c, .slice A' (dq n) c'] w (RDivR w (m / n) (m % n)) := by
  have hn1 : 1 ≤ dq n := by
    rcases Nat.eq_zero_or_pos (dq n) with h0 | h0
    · have := (digs_len_pos (b := D4) (n := n) (by decide)).1 h0; omega
    · exact h0
  have HX := hide h
  have HY := hide h'
  have e1 : (dq m : Int) - (dq n : Int) + 1 = (top : Int) := by omega
  have hc := h.1
  obtain ⟨i0, hi0, hz0, hz1, hz2⟩ := info_parts Tryd.infoInt
  have I0 := hide hi0
  have Z0 := hide hz0
  have Z1 := hide hz1
  have Z2 := hide hz2
  clear hi0 hz0 hz1 hz2 h h'
  have htm : top ≤ dq m := by omega
  have ht1 : ¬ dq m < top := by omega
  have ht2 : ¬ (top : Int) < 0 := by omega
  have HS := hide (slice_from 39 3 i0 Tryd.underlying39 I0.out Z1.out A (c := c) htm)
  have HD : Hid (Rd I64 w w.heap.size (if c = top then A else A.map (·.add top)) ((digs D4 m).drop top)) := HX.out.2.cut hc
  obtain ⟨D, hD⟩ : ∃ D, D = (if c = top then A else A.map (·.add top)) := ⟨_, rfl⟩
  rw [← hD] at HS HD
  obtain ⟨r0, hr0⟩ : ∃ r, r = val D4 ((digs D4 m).drop top) := ⟨_, rfl⟩
  have HR0 : Hid (r0 < n) := by
    have h1 := val_drop_lt (m := m) htm
    rw [← hr0] at h1
    have h2 := pow_le_of_digs (b := D4) (n := n) (by decide) hn
    rw [show (digs D4 n).length - 1 = dq m - top by unfold dq at *; omega] at h2
    exact Nat.lt_of_lt_of_le h1 h2
  have GD : Hid (Good4 ((digs D4 m).drop top)) := fun x hx => good4_digs m x (List.mem_of_mem_drop hx)
  have HDL : Hid (dq m - top = ((digs D4 m).drop top).length) := by unfold Hid; rw [List.length_drop]; rfl
  have HTL : Hid (∀ j, j ≤ dq m → ((digs D4 m).drop j).length = dq m - j) := fun j _ => by rw [List.length_drop]; rfl
  clear hD
  have HRE := hide hr0.symm
  clear hr0
  have hS := HS.out
  go_enter Tryd.func93, Tryd.ntmps93
  go_wp2_with (first | (at_make; go_must (refine wpList_ints rfl _ _ rfl (dq m) _ rfl rfl (by omega) (by omega) ?_; intro g w1 hg hb1 hbel)) | (at_builtin; go_must (refine wpList_app (f := I64) (fun _ => rfl) rfl (.tmp 31) (.tmp 34) 39 rfl w.heap.size 3 i0 (.int .i64 0) 8 Tryd.underlying39 I0.out Z0.out Z1.out Z2.out rfl (v := .slice (some ⟨w1.heap.size, 0, none⟩) 0 0) (n := 0) (xs := []) rfl (World.ownsRow_lit w1 #[] 0 hbel.size (by simp only [maxLen]; omega) rfl) (B := w.heap.size) (A := D) (m := dq m - top) (c := c - top) (ws := (digs D4 m).drop top) rfl HDL.out ((HD.out.below hbel).below ((Below.refl _ _).alloc hbel.size _)) (by simp only [maxLen]; omega) (by omega) (by have := hbel.size; simp; omega) ?_; intro v2 w2 hown2 hgrow hat; obtain ⟨A2, c2, rfl, hc2, hr2, hab⟩ := row_own (f := I64) (dd := (digs D4 m).drop top) hown2 (by rw [Nat.zero_add]; exact HDL.out) (by simp); rw [Nat.zero_add] at hc2; simp only [Nat.zero_add])) | (go_at_call 131; (with_reducible refine (rtrim_post HDL.out HRE.out hr2 GD.out (by omega) hc2).mono ?_); rintro e w3 ⟨rfl, rfl⟩) | fail)
  have hgw : w.heap.size ≤ g := by rw [hg.out]; exact Nat.le_refl _
  have hgb : g < w1.heap.size := hb1.out.lt
  have HB3 : Hid (Below w.heap.size w w2) := (hbel.alloc hbel.size _).grown hgrow (by have := hbel.size; simp; omega) (fun k hk => by have e : some w1.heap.size = some k := hk; injection e with e; have := hbel.size; omega)
  have HQ3 : Hid (Blk I64 3 w2 g (List.replicate (dq m) 0)) := (hb1.out.alloc _).grown hgrow (by intro e; have e2 : some g = some w1.heap.size := e; injection e2 with e2; omega)
  have HR3 : Hid (RN w2 w2.heap.size A2 c2 r0) := rn_of HDL.out HRE.out hr2 GD.out hc2
  have HT3 : Hid (val D4 ((digs D4 m).drop top) = n * val D4 (List.replicate (dq m - top) 0) + r0) := by unfold Hid; rw [val_zeros, HRE.out, Nat.mul_zero, Nat.zero_add]
  clear hg hgb hgrow hat hab hr2 hc2 hown2 hbel hb1 HD HRE HDL GD hS HS
  go_loopw [8, 9] (fun rv iv wr => ∃ (j r : Nat) (R : Option Addr) (d : Nat) (hi : List Nat), j ≤ top ∧ iv = .int .i64 ((j : Int) - 1) ∧ rv = .slice R (dq r) d ∧ Hid (RN wr wr.heap.size R d r) ∧ Hid (r < n) ∧ Hid (hi.length = dq m - j) ∧ Hid (Good4 hi) ∧
      Hid (val D4 ((digs D4 m).drop j) = n * val D4 hi + r) ∧ Hid (Blk I64 3 wr g (List.replicate j 0 ++ hi)) ∧ Hid (Below w.heap.size w wr))
    (fun _ iv _ => (intOf iv + 1).toNat)
  case atStart =>
    refine ⟨top, r0, A2, c2, List.replicate (dq m - top) 0, Nat.le_refl _, rfl, rfl, HR3, HR0, by simp [Hid], by intro x hx; rw [(List.mem_replicate.1 hx).2]; decide, HT3, ?_, HB3⟩
    have h1 := HQ3.out
    rw [show dq m = top + (dq m - top) by omega, ← List.replicate_append_replicate] at h1
    exact h1
  case round =>
    obtain ⟨j, r, R, d, hi, hj, rfl, rfl, hr, hrn, hhl, hhg, hval, hblk, hbw⟩ := hrel
    by_cases h0 : j = 0
    · subst h0
      have HV : Hid (m / n = val D4 hi ∧ m % n = r) := by
        have h1 := hval.out
        rw [List.drop_zero, val_digs4] at h1
        exact rdiv_end h1 hrn.out
      have HLN : Hid (dq m = (List.replicate 0 0 ++ hi).length) := by unfold Hid; simp [hhl.out]
      have HVV : Hid (val D4 (List.replicate 0 0 ++ hi) = val D4 hi) := by simp [Hid]
      have HGG : Hid (Good4 (List.replicate 0 0 ++ hi)) := by simpa [Hid] using hhg.out
      have HRD := hide (hblk.out.rd0 hblk.out.lt)
      go_wp2_with (first | (go_at_call 131; (with_reducible refine (rtrim_post HLN.out HVV.out HRD.out HGG.out (by omega) (Nat.le_refl _)).mono ?_); rintro e w4 ⟨rfl, rfl⟩) | fail)
      refine bodyPost_ret (v := .tuple #[.slice (some ⟨g, 0, none⟩) (dq (val D4 hi)) (dq m), .slice R (dq r) d]) (by simp [results, Tryd.results93, go_sem]) rfl ?_
      show RDivR w (m / n) (m % n) _ _
      rw [HV.out.1, HV.out.2]
      exact ⟨_, _, _, _, rfl, rn_of HLN.out HVV.out HRD.out HGG.out (Nat.le_refl _), hr, hbw⟩
    · obtain ⟨i, rfl⟩ : ∃ i, j = i + 1 := ⟨j - 1, by omega⟩
      have hi' : i < (digs D4 m).length := by have : (digs D4 m).length = dq m := rfl; omega
      obtain ⟨ad, rfl, hab, hcell⟩ := ((HX.out.below hbw.out).2).at_ hi'
      obtain ⟨x, hx⟩ : ∃ x, x = (digs D4 m)[i] := ⟨_, rfl⟩
      rw [← hx] at hcell
      unfold I64 at hcell
      have hx9 : x ≤ 9999 := by rw [hx]; have h4 : D4 = 10000 := rfl; have := good4_digs m _ (List.getElem_mem hi'); omega
      have HDR : Hid ((digs D4 m).drop i = x :: (digs D4 m).drop (i + 1)) := by unfold Hid; rw [List.drop_eq_getElem_cons hi', ← hx]
      obtain ⟨r', hr'⟩ : ∃ r', r' = x + D4 * r := ⟨_, rfl⟩
      obtain ⟨t, htt⟩ : ∃ t, t = r' / n := ⟨_, rfl⟩
      have HDG := hide (rdiv_digit hrn.out hx9)
      have hq' : dq r' ≤ 100000 := by rw [hr']; exact dq_step (by omega) hrn.out hx9
      have HV1 : Hid (val D4 (x :: digs D4 r) = r') := by unfold Hid; rw [hr']; show x + D4 * val D4 (digs D4 r) = _; rw [val_digs4]
      rw [← hr', ← htt] at HDG
      have ht9 : t ≤ 9999 := HDG.out.1
      have HG1 : Hid (Good4 (x :: digs D4 r)) := by
        intro z hz
        rcases List.mem_cons.1 hz with rfl | hz
        · rw [D4_eq]; omega
        · exact good4_digs r z hz
      have HL1 : Hid (1 + dq r = (x :: digs D4 r).length) := by unfold Hid; rw [List.length_cons, Nat.add_comm]; rfl
      have hqr : dq r ≤ 100000 := Nat.le_trans (digs_len_mono (b := D4) (by decide) (Nat.le_of_lt hrn.out)) (by have : (digs D4 n).length = dq n := rfl; omega)
      have hii : i < dq m := hi'
      have HBIS := hide (fun s => bis_le (n := n) (s := s) (t := r') hn)
      rw [← htt] at HBIS
      have HST := hide (fun r2 (h : n * t + r2 = r') => rdiv_step hval.out (show n * t + r2 = x + D4 * r by rw [h, hr']))
      have HHR := hide hr'
      clear hx hi' h0 hr' htt
      go_wp2_with (first | (at_builtin; go_must (refine wpList_app (f := I64) (fun _ => rfl) rfl (.tmp 48) (.tmp 49) 39 rfl w.heap.size 3 i0 (.int .i64 0) 8 Tryd.underlying39 I0.out Z0.out Z1.out Z2.out rfl (v := .slice (some ⟨wr.heap.size, 0, none⟩) 1 1) (n := 1) (xs := [.int .i64 (x : Int)]) rfl (World.ownsRow_lit wr #[.int .i64 (x : Int)] 1 hbw.out.size (by simp only [maxLen]; omega) rfl) (B := wr.heap.size) (A := R) (m := dq r) (c := d) (ws := digs D4 r) rfl rfl (hr.out.2.below ((Below.refl _ _).alloc (Nat.le_refl _) _)) (by simp only [maxLen]; omega) (by omega) (by have := hbw.out.size; simp; omega) ?_; intro v4 w4 hown4 hgrow hat; obtain ⟨A4, c4, rfl, hc4, hr4, hab4⟩ := row_own (f := I64) (dd := x :: digs D4 r) hown4 HL1.out (by simp [I64]))) | (go_at_call 131; (with_reducible refine (rtrim_post HL1.out HV1.out hr4 HG1.out (by omega) hc4).mono ?_); rintro e w5 ⟨rfl, rfl⟩) | fail)
      have hgr : g < wr.heap.size := hblk.out.lt
      have HB4 : Hid (Below w.heap.size w w4) := (hbw.out.alloc hbw.out.size _).grown hgrow (by have := hbw.out.size; simp; omega) (fun k hk => by have e : some wr.heap.size = some k := hk; injection e with e; have := hbw.out.size; omega)
      have HQ4 : Hid (Blk I64 3 w4 g (List.replicate (i + 1) 0 ++ hi)) := (hblk.out.alloc _).grown hgrow (by intro e; have e2 : some g = some wr.heap.size := e; injection e2 with e2; omega)
      have HR4 : Hid (RN w4 w4.heap.size A4 c4 r') := rn_of HL1.out HV1.out hr4 HG1.out hc4
      have HN4 : Hid (∀ ad, A4 = some ad → ad.block ≠ g) := fun ad4 e4 => by
        have h1 := hab4 ad4 e4
        rcases hat with h2 | h2
        · rw [h1] at h2
          have e : some ad4.block = some wr.heap.size := h2
          injection e with e; omega
        · rw [h1] at h2
          injection h2 with h2
          simp at h2; omega
      clear hgr hgrow hat hab4 hr4 hc4 hown4 hcell
      go_loopw [10, 11] (fun lo hv wz => ∃ a b : Nat, lo = .int .i64 (a : Int) ∧ hv = .int .i64 (b : Int) ∧ a ≤ t ∧ t ≤ b ∧ b ≤ 9999 ∧ Hid (Below w4.heap.size w4 wz)) (fun lo hv _ => (intOf hv).toNat - (intOf lo).toNat)
      case atStart => exact ⟨0, 9999, rfl, rfl, Nat.zero_le _, ht9, Nat.le_refl _, Below.refl _ _⟩
      case round =>
        obtain ⟨a, b, rfl, rfl, ha, hb, hb9, hbz⟩ := hrel
        by_cases hab2 : a < b
        · obtain ⟨s, hs⟩ : ∃ s, s = (a + b + 1) / 2 := ⟨_, rfl⟩
          have hs1 : a < s := by omega
          have hs2 : s ≤ b := by omega
          have e2 : ((a : Int) + (b : Int) + 1) / 2 = (s : Int) := by omega
          have e3 : ((a : Int) + (b : Int) + 1).tdiv 2 = (s : Int) := by rw [Int.tdiv_eq_ediv_of_nonneg (by omega)]; exact e2
          have HS1 : Hid (s - 1 < s ∧ (s : Int) - 1 = ((s - 1 : Nat) : Int)) := by unfold Hid; omega
          clear hs
          have hs9 : s ≤ 9999 := by omega
          have hqm := dq_mul_le (n := n) (s := s) (by omega) hs9
          have CS : Hid (Calls Tryd.prog 19 #[.int .u64 (s : Int)] wr (RefPost wr s)) := Small_any (by omega)
          have HYz : Hid (RN wr wr.heap.size A' c' n) := (HY.out.below (HB4.out.trans (hbz.out.mono HB4.out.size))).more (Nat.le_trans HB4.out.size hbz.out.size)
          have CM : Hid (∀ W B d, Hid (RN W W.heap.size B d s) → Hid (Below wr.heap.size wr W) → Calls Tryd.prog 96 #[.slice A' (dq n) c', .slice B (dq s) d] W (RefPost W (n * s))) := fun W B d h1 h2 => rMul_any ((HYz.out.below h2.out).more h2.out.size) h1.out (by omega) (Nat.le_trans (dq_u64 (by omega)) (by omega))
          have HR6 : Hid (∀ W, Below wr.heap.size wr W → RN W W.heap.size A4 c4 r') := fun W h2 => (((HR4.out.below hbz.out).more hbz.out.size).below h2).more h2.size
          by_cases hle : n * s ≤ r'
          · have hst : s ≤ t := (HBIS.out s).1 hle
            obtain ⟨v, hv, hv0⟩ : ∃ v, cmpI (n * s) r' = v ∧ v ≤ 0 := by
              rcases Nat.lt_or_eq_of_le hle with h | h
              · exact ⟨_, cmpI_lt h, by decide⟩
              · exact ⟨_, cmpI_eq h, by decide⟩
            have CC : Hid (∀ W B d, Hid (RN W W.heap.size B d (n * s)) → Below wr.heap.size wr W → Calls Tryd.prog 83 #[.slice B (dq (n * s)) d, .slice A4 (dq r') c4] W (fun e w' => e = .returned (.int .i64 v) ∧ ∃ q, w' = W.drewN q)) := fun W B d h1 h2 => by rw [← hv]; exact rCmp_any h1.out (HR6.out W h2) (by omega) (by omega)
            clear hv hle
            go_wp2_with (first | (go_at_call 19; (with_reducible refine CS.out.mono ?_); rintro e w6 ⟨B6, d6, rfl, hn6, hbk6⟩) | (go_at_call 96; (with_reducible refine (CM.out _ _ _ hn6 hbk6).mono ?_); rintro e w7 ⟨B7, d7, rfl, hn7, hbk7⟩) | (go_at_call 83; (with_reducible refine (CC.out _ _ _ hn7 (hbk6.out.trans (hbk7.out.mono hbk6.out.size))).mono ?_); rintro e w8 ⟨rfl, nq, rfl⟩) | fail)
            go_roundw
            case rel => exact ⟨s, b, rfl, rfl, hst, hb, hb9, below_drewN ((hbz.out.trans (hbk6.out.mono hbz.out.size)).trans (hbk7.out.mono (Nat.le_trans hbz.out.size hbk6.out.size))) _⟩
            case measure => simp [intOf]; omega
          · have hst : ¬ s ≤ t := fun h => hle ((HBIS.out s).2 h)
            obtain ⟨v, hv, hv0⟩ : ∃ v, cmpI (n * s) r' = v ∧ ¬ v ≤ 0 := ⟨_, cmpI_gt (by omega), by decide⟩
            have CC : Hid (∀ W B d, Hid (RN W W.heap.size B d (n * s)) → Below wr.heap.size wr W → Calls Tryd.prog 83 #[.slice B (dq (n * s)) d, .slice A4 (dq r') c4] W (fun e w' => e = .returned (.int .i64 v) ∧ ∃ q, w' = W.drewN q)) := fun W B d h1 h2 => by rw [← hv]; exact rCmp_any h1.out (HR6.out W h2) (by omega) (by omega)
            clear hv hle
            go_wp2_with (first | (go_at_call 19; (with_reducible refine CS.out.mono ?_); rintro e w6 ⟨B6, d6, rfl, hn6, hbk6⟩) | (go_at_call 96; (with_reducible refine (CM.out _ _ _ hn6 hbk6).mono ?_); rintro e w7 ⟨B7, d7, rfl, hn7, hbk7⟩) | (go_at_call 83; (with_reducible refine (CC.out _ _ _ hn7 (hbk6.out.trans (hbk7.out.mono hbk6.out.size))).mono ?_); rintro e w8 ⟨rfl, nq, rfl⟩) | fail)
            go_roundw
            case rel => exact ⟨a, s - 1, rfl, by rw [HS1.out.2], ha, by omega, by omega, below_drewN ((hbz.out.trans (hbk6.out.mono hbz.out.size)).trans (hbk7.out.mono (Nat.le_trans hbz.out.size hbk6.out.size))) _⟩
            case measure => have := HS1.out; simp [intOf]; omega
        · obtain rfl : a = t := by omega
          have HBz : Hid (Below w.heap.size w wr) := HB4.out.trans (hbz.out.mono HB4.out.size)
          have HQz : Hid (Blk I64 3 wr g (List.replicate (i + 1) 0 ++ hi)) := hbz.out.block g HQ4.out.lt |>.trans HQ4.out
          have HRz : Hid (RN wr wr.heap.size A4 c4 r') := (HR4.out.below hbz.out).more hbz.out.size
          have hcs : wr.cell? ⟨g, i, none⟩ = some (.int .i64 0) := HQz.out.cell (by rw [List.getElem?_append_left (by simp)]; simp)
          have hfz := HQz.out.frozen i
          have CS : Hid (∀ W, Calls Tryd.prog 19 #[.int .u64 (a : Int)] W (RefPost W a)) := fun W => Small_any (by omega)
          have CM : Hid (∀ W B d, Hid (RN W W.heap.size B d a) → Below w.heap.size w W → Calls Tryd.prog 96 #[.slice A' (dq n) c', .slice B (dq a) d] W (RefPost W (n * a))) := fun W B d h1 h2 => rMul_any ((HY.out.below h2).more h2.size) h1.out (by omega) (Nat.le_trans (dq_u64 (by omega)) (by omega))
          have CB : Hid (∀ W B d, Hid (RN W W.heap.size B d (n * a)) → RN W W.heap.size A4 c4 r' → Calls Tryd.prog 94 #[.slice A4 (dq r') c4, .slice B (dq (n * a)) d] W (RefPost W (r' - n * a))) := fun W B d h1 h2 => rSub_any h2 h1.out (by omega) HDG.out.2.2
          have CR : Hid (∀ u W, Below (wr.setCell ⟨g, i, none⟩ u).heap.size (wr.setCell ⟨g, i, none⟩ u) W → RN W W.heap.size A4 c4 r') := fun u W hb => by
            have h1 := HRz.out.set HN4.out (i := i) u
            have e : (wr.setCell ⟨g, i, none⟩ u).heap.size = wr.heap.size := by simp [World.setCell]
            rw [← e] at h1
            exact (h1.below hb).more hb.size
          go_wp2_with (first | (go_at_call 19; (with_reducible refine (CS.out _).mono ?_); rintro e w6 ⟨B6, d6, rfl, hn6, hbk6⟩) | (go_at_call 96; (with_reducible refine (CM.out _ _ _ hn6 ((HBz.out.setCell hgw _).trans (hbk6.out.mono (HBz.out.setCell hgw _).size))).mono ?_); rintro e w7 ⟨B7, d7, rfl, hn7, hbk7⟩) | (go_at_call 94; (with_reducible refine (CB.out _ _ _ hn7 (CR.out _ _ (hbk6.out.trans (hbk7.out.mono hbk6.out.size)))).mono ?_); rintro e w8 ⟨B8, d8, rfl, hn8, hbk8⟩) | fail)
          have HW8 : Hid (Below (wr.setCell ⟨g, i, none⟩ (.int .i64 (a : Int))).heap.size (wr.setCell ⟨g, i, none⟩ (.int .i64 (a : Int))) w8) := (hbk6.out.trans (hbk7.out.mono hbk6.out.size)).trans (hbk8.out.mono (Nat.le_trans hbk6.out.size hbk7.out.size))
          go_roundw
          case rel =>
            refine ⟨i, r' - n * a, B8, d8, a :: hi, by omega, rfl, rfl, hn8, HDG.out.2.1, ?_, ?_, ?_, ?_, ?_⟩
            · have := hhl.out; unfold Hid; rw [List.length_cons]; omega
            · intro z hz
              rcases List.mem_cons.1 hz with rfl | hz
              · rw [D4_eq]; omega
              · exact hhg.out z hz
            · unfold Hid
              rw [HDR.out]
              exact HST.out _ (by have := HDG.out.2.2; omega)
            · have h1 := HQz.out.set_ i a
              rw [zeros_set] at h1
              exact (HW8.out.block g (by simpa [World.setCell] using HQz.out.lt)).trans h1
            · exact (HBz.out.setCell hgw _).trans (HW8.out.mono (HBz.out.setCell hgw _).size)
          case measure => simp [intOf]

theorem rDiv_any {A A' : Option Addr} {m n c c' : Nat} {w : World} (h : RN w w.heap.size A c m) (h' : RN w w.heap.size A' c' n) (hl : dq m ≤ 99999) (hl' : dq n ≤ 99999) (hn : 0 < n) :
    Calls Tryd.prog 93 #[.slice A (dq m) c, .slice A' (dq n) c'] w (RDivR w (m / n) (m % n)) := by
  by_cases hs : dq m + 1 < dq n
  · exact rDiv_short h (by omega) (by omega) hs
  · exact rDiv_long (top := dq m + 1 - dq n) h h' hl hl' hn (by omega)
end Go.Proofs.YteieelgdiccppaaDoor
end

section
/- The document's own numbers: Gcd. Conditions: less than 100000 fours of digits. -/
open Go.RowKit
set_option maxRecDepth 100000
namespace Go.Proofs.YteieelgdiccppaaDoor
theorem dq_pos {n : Nat} : 0 < dq n ↔ 0 < n := by
  have := digs_len_pos (b := D4) (n := n) (by decide)
  have e : (digs D4 n).length = dq n := rfl
  omega
end Go.Proofs.YteieelgdiccppaaDoor
end

section
/- A number's letters, read again. No conditions. -/
open Go.RowKit
set_option maxRecDepth 100000
namespace Go.Proofs.YteieelgdiccppaaDoor
theorem dig_letter {d : Nat} (h : d < 10) : isDig (letter d) = true := by unfold isDig; rw [letter_toNat h]; simp; omega
theorem dvs_letters (l : List Nat) (h : ∀ d ∈ l, d < 10) : dvs (l.reverse.map letter) = l := by
  unfold dvs
  rw [← List.map_reverse, List.reverse_reverse, List.map_map]
  have : ∀ m : List Nat, (∀ d ∈ m, d < 10) → m.map ((fun c : UInt8 => c.toNat - 48) ∘ letter) = m := by
    intro m
    induction m with
    | nil => intro _; rfl
    | cons d m ih =>
      intro hm
      rw [List.map_cons, ih fun x hx => hm x (List.mem_cons_of_mem _ hx)]
      have := letter_toNat (hm d (List.mem_cons_self ..))
      simp only [Function.comp_apply, this]
      congr 1; omega
  exact this l h
theorem numL_decL (m : Nat) : numL (decL m) = m ∧ digB (decL m) = true := by
  unfold decL
  by_cases h0 : m = 0
  · rw [if_pos h0, h0]; exact ⟨rfl, by decide⟩
  · rw [if_neg h0]
    have hlt := digs_lt (b := 10) (by omega) m
    refine ⟨?_, ?_⟩
    · show numL ((digs 10 m).reverse.map letter) = m
      rw [numL_val, dvs_letters _ hlt, val_digs (by omega)]
    · unfold digB
      rw [Bool.and_eq_true]
      refine ⟨?_, ?_⟩
      · rw [digs_pos (by omega) (by omega)]; simp
      · rw [List.all_eq_true]
        intro c hc
        obtain ⟨d, hd, rfl⟩ := List.mem_map.1 hc
        exact dig_letter (hlt d (List.mem_reverse.1 hd))
theorem dt_le {m k : Nat} (h : m < 10 ^ k) (hk : 1 ≤ k) : (decL m).length ≤ k := by
  unfold decL
  by_cases h0 : m = 0
  · rw [if_pos h0]; exact hk
  · rw [if_neg h0, List.length_map, List.length_reverse]
    have h1 := pow_le_of_digs (b := 10) (n := m) (by decide) (by omega)
    have h2 : 10 ^ ((digs 10 m).length - 1) < 10 ^ k := Nat.lt_of_le_of_lt h1 h
    have h3 := (Nat.pow_lt_pow_iff_right (a := 10) (by decide)).1 h2
    omega
end Go.Proofs.YteieelgdiccppaaDoor
end

section
/- strings.CutPrefix at a minus. Conditions: a string of at most 100000 bytes. -/
open Go.RowKit
set_option maxRecDepth 100000
namespace Go.Proofs.YteieelgdiccppaaDoor
def minusS : ByteArray := ⟨#[45]⟩
theorem toList_loop (bs : ByteArray) (k : Nat) : ∀ i r, bs.size - i = k → ByteArray.toList.loop bs i r = r.reverse ++ bs.data.toList.drop i := by
  induction k with
  | zero =>
    intro i r h
    unfold ByteArray.toList.loop
    rw [if_neg (by omega), List.drop_of_length_le (by show bs.data.size ≤ i; have : bs.data.size = bs.size := rfl; omega), List.append_nil]
  | succ k ih =>
    intro i r h
    have hi : i < bs.data.toList.length := by show i < bs.data.size; have : bs.data.size = bs.size := rfl; omega
    unfold ByteArray.toList.loop
    rw [if_pos (by omega), ih (i + 1) _ (by omega), List.drop_eq_getElem_cons hi, List.reverse_cons, List.append_assoc]
    congr 2
    show bs.get! i :: _ = _
    have : bs.get! i = bs.data.toList[i] := by
      show bs.data[i]! = _
      rw [getElem!_pos bs.data i hi]; rfl
    rw [this]; rfl
theorem toList_data (bs : ByteArray) : bs.toList = bs.data.toList := by
  unfold ByteArray.toList
  rw [toList_loop bs _ 0 [] rfl]; rfl
theorem extract_list (s : ByteArray) (i j : Nat) : (s.extract i j).data.toList = (s.data.toList.take j).drop i := by
  simp [ByteArray.data_extract, List.extract_eq_drop_take', Array.toList_extract]
theorem minus_head (s : ByteArray) : ((s.extract 0 1).toList == [45]) = (s.data.toList.head? == some 45) := by
  rw [toList_data, extract_list]
  cases s.data.toList with
  | nil => rfl
  | cons x xs => simp
theorem HasPrefix_any (s : ByteArray) (w : World) (hs : s.size ≤ 100000) :
    Calls Tryd.prog 148 #[.string s, .string ⟨#[45]⟩] w fun e w' => e = .returned (.bool (s.data.toList.head? == some 45)) ∧ w = w' := by
  by_cases h0 : s.size = 0
  · have HE : Hid ((s.data.toList.head? == some 45) = false) := by
      have : s.data.toList = [] := List.eq_nil_of_length_eq_zero (by rw [← size_list]; exact h0)
      unfold Hid; rw [this]; rfl
    go_enter Tryd.func148, Tryd.ntmps148
    go_wp2
    go_ret
    exact ⟨by rw [HE.out]; rfl, rfl⟩
  · have h1 : 1 ≤ s.size := by omega
    have HE := hide (minus_head s)
    go_enter Tryd.func148, Tryd.ntmps148
    go_wp2
    go_ret
    exact ⟨by rw [← HE.out]; rfl, rfl⟩
/-- What CutPrefix leaves. -/
def CutR (w : World) (s : ByteArray) (e : Ending) (w' : World) : Prop := ∃ t : ByteArray, ∃ b : Bool, e = .returned (.tuple #[.string t, .bool b]) ∧ Hid (s.data.toList = (if b then [45] else []) ++ t.data.toList ∧ (b = false → s.data.toList.head? ≠ some 45)) ∧ w = w'
theorem cutp_any (s : ByteArray) (w : World) (hs : s.size ≤ 100000) : Calls Tryd.prog 129 #[.string s, .string ⟨#[45]⟩] w (CutR w s) := by
  have CH := hide (fun W => HasPrefix_any s W hs)
  by_cases hh : s.data.toList.head? = some 45
  · have hb : (s.data.toList.head? == some 45) = true := by rw [hh]; rfl
    rw [hb] at CH
    obtain ⟨m, hm⟩ : ∃ m, s.data.toList = 45 :: m := by
      cases hl : s.data.toList with
      | nil => rw [hl] at hh; cases hh
      | cons x xs => rw [hl] at hh; injection hh with hh; exact ⟨xs, by rw [hh]⟩
    have h1 : 1 ≤ s.size := by rw [size_list, hm]; simp
    have HM := hide hm
    clear hh hb hm
    go_enter Tryd.func129, Tryd.ntmps129
    go_wp2_with (first | (go_at_call 148; (with_reducible refine (CH.out _).mono ?_); rintro e w1 ⟨rfl, rfl⟩) | fail)
    refine bodyPost_ret (v := .tuple #[.string (s.extract 1 s.size), .bool true]) (by simp [results, Tryd.results129, go_sem]) rfl ⟨_, true, rfl, ⟨?_, fun h => by cases h⟩, rfl⟩
    rw [extract_list, List.take_of_length_le (by rw [size_list]; exact Nat.le_refl _), HM.out]
    rfl
  · have hb : (s.data.toList.head? == some 45) = false := by rw [beq_eq_false_iff_ne]; exact hh
    rw [hb] at CH
    have HH := hide hh
    clear hh hb
    go_enter Tryd.func129, Tryd.ntmps129
    go_wp2_with (first | (go_at_call 148; (with_reducible refine (CH.out _).mono ?_); rintro e w1 ⟨rfl, rfl⟩) | fail)
    refine bodyPost_ret (v := .tuple #[.string s, .bool false]) (by simp [results, Tryd.results129, go_sem]) rfl ⟨s, false, rfl, ⟨rfl, fun _ => HH.out⟩, rfl⟩
theorem cut_any (s : ByteArray) (w : World) (hs : s.size ≤ 100000) : Calls Tryd.prog 86 #[.string s, .string ⟨#[45]⟩] w (CutR w s) := by
  have CH := hide (fun W => cutp_any s W hs)
  go_enter Tryd.func86, Tryd.ntmps86
  go_wp2_with (first | (go_at_call 129; (with_reducible refine (CH.out _).mono ?_); rintro e w1 ⟨t, b, rfl, ht, rfl⟩) | fail)
  exact bodyPost_ret (v := .tuple #[.string t, .bool b]) (by simp [results, Tryd.results86, go_sem]) rfl ⟨t, b, rfl, ht, rfl⟩
def CutS (w : World) (l : List UInt8) (b : Bool) (e : Ending) (w' : World) : Prop := ∃ t : ByteArray, e = .returned (.tuple #[.string t, .bool b]) ∧ Hid (t.data.toList = l) ∧ w = w'
theorem cut_h (s : ByteArray) (w : World) (hs : s.size ≤ 100000) {b : Bool} {l : List UInt8} (h : s.data.toList = (if b then [45] else []) ++ l) (hb : b = false → l.head? ≠ some 45) : Calls Tryd.prog 86 #[.string s, .string ⟨#[45]⟩] w (CutS w l b) := by
  refine (cut_any s w hs).mono ?_
  rintro e w' ⟨t, b', rfl, ht, rfl⟩
  obtain ⟨h1, h2⟩ := ht.out
  rw [h] at h1 h2
  cases b <;> cases b'
  · exact ⟨t, rfl, by simpa [Hid] using h1.symm, rfl⟩
  · exfalso; refine hb rfl ?_; rw [show l = 45 :: t.data.toList by simpa using h1]; rfl
  · exfalso; exact h2 rfl rfl
  · exact ⟨t, rfl, by simpa [Hid] using h1.symm, rfl⟩
/-- What Parse leaves of an integer. -/
def ZPR (W : World) (z : Int) (e : Ending) (w' : World) : Prop :=
  ∃ A c, e = .returned (.tuple #[.agg #[.bool (decide (z < 0)), .slice A (dl z.natAbs) c], .bool true]) ∧ ZA w' (decide (z < 0)) A (dl z.natAbs) c z ∧ Hid (Below W.heap.size W w')
def ZPN (W : World) (e : Ending) (w' : World) : Prop := e = .returned (.tuple #[.agg #[.bool false, .slice none 0 0], .bool false]) ∧ Hid (Below W.heap.size W w')
def PsR (W : World) (v : Nat) (e : Ending) (w' : World) : Prop := ∃ A c, e = .returned (.tuple #[.agg #[.slice A (dl v) c], .bool true]) ∧ Nm w' A (dl v) c v ∧ Hid (Below W.heap.size W w')
def PsN (W : World) (e : Ending) (w' : World) : Prop := e = .returned (.tuple #[.agg #[.slice none 0 0], .bool false]) ∧ Hid (Below W.heap.size W w')
theorem numL_dl {l : List UInt8} (hd : digB l = true) (h : l.length ≤ 99999) : dl (numL l) ≤ 100000 := by
  have h1 := numL_lt l (by unfold digB at hd; rw [Bool.and_eq_true] at hd; exact hd.2)
  refine Nat.le_trans (dl_le (k := l.length + 1) (Nat.lt_of_lt_of_le h1 ?_)) (by omega)
  rw [Nat.pow_succ]
  exact Nat.le_trans (Nat.pow_le_pow_left (show 10 ≤ W32 by decide) _) (Nat.le_mul_of_pos_right _ (by decide))
theorem parse_h (s : ByteArray) (w : World) (hs : s.size ≤ 99999) (h : digB s.data.toList = true) {v : Nat} (hv : numL s.data.toList = v) : Calls Tryd.prog 16 #[.string s] w (PsR w v) := by
  subst hv
  refine (Parse_any s w (by omega)).mono fun e w' h1 => ?_
  unfold ParsePost at h1
  rw [if_pos h] at h1
  obtain ⟨A, c, he, hc, hb⟩ := h1
  exact ⟨A, c, he, nm_can hc (numL_dl h (by rw [← size_list]; omega)), hb⟩
theorem parse_n (s : ByteArray) (w : World) (hs : s.size ≤ 99999) (h : ¬ digB s.data.toList = true) : Calls Tryd.prog 16 #[.string s] w (PsN w) := by
  refine (Parse_any s w (by omega)).mono fun e w' h1 => ?_
  unfold ParsePost at h1
  rw [if_neg h] at h1
  exact h1
theorem alc1 {w : World} {o : Obj} {p i : Nat} {v : Value} (h : w.cell? ⟨p, i, none⟩ = some v) : (w.alloc o).cell? ⟨p, i, none⟩ = some v := (World.cell?_alloc_some _ _ _ (by rw [h]; rfl)).trans h
theorem set2b {w : World} {p : Nat} {s : Bool} {A : Option Addr} {n c : Nat} {x y : Value} (h : Zcell w p s A n c) :
    ((w.setCell ⟨p, 0, none⟩ x).setCell ⟨p, 1, none⟩ y).cell? ⟨p, 0, none⟩ = some x ∧ ((w.setCell ⟨p, 0, none⟩ x).setCell ⟨p, 1, none⟩ y).cell? ⟨p, 1, none⟩ = some y :=
  ⟨(World.cell?_setCell_other _ _ _ _ (by intro e; cases e)).trans (World.cell?_setCell_same _ _ _ h.c0), World.cell?_setCell_same _ _ _ ((World.cell?_setCell_other _ _ _ _ (by intro e; cases e)).trans h.c1)⟩
section
variable {W : World} {s : ByteArray} {b : Bool} {l : List UInt8}
set_option maxHeartbeats 1000000 in
theorem zparse_h {v : Int} (hs : s.size ≤ 99999) (h : s.data.toList = (if b then [45] else []) ++ l) (hb : b = false → l.head? ≠ some 45) (hd : digB l = true) (hv : zi b (numL l) = v) : Calls Tryd.prog 26 #[.string s] W (ZPR W v) := by
  have hll : l.length ≤ 99999 := by
    have := congrArg List.length h
    rw [← size_list, List.length_append] at this
    omega
  have CC := hide (fun (W' : World) => cut_h s W' (by omega) h hb)
  have CP : Hid (∀ (W' : World) (t : ByteArray), Hid (t.data.toList = l) → Calls Tryd.prog 16 #[.string t] W' (PsR W' v.natAbs)) := fun W' t ht => parse_h t W' (by rw [size_list, ht.out]; exact hll) (by rw [ht.out]; exact hd) (by rw [ht.out, ← hv, zi_abs])
  have CS : Hid (∀ W' B n d, Nm W' B n d v.natAbs → Calls Tryd.prog 87 #[.bool b, .agg #[.slice B n d]] W' (SgR W' (decide (v < 0)) B n d)) := fun W' B n d hn => signed_z hn (by rw [← hv, zi_abs])
  clear h hb hd hv hs hll
  go_enter Tryd.func26, Tryd.ntmps26
  go_wp2_with (first | (go_at_call 86; (with_reducible refine (CC.out _).mono ?_); rintro e w1 ⟨t, rfl, ht, rfl⟩) | (go_at_call 16; (with_reducible refine (CP.out _ t ht).mono ?_); rintro e w2 ⟨B, d, rfl, hn, hbk⟩; have HR := hide ((zc_new _ _ _ _ _ _).up hbk); have HW : Hid (Below W.heap.size W w2) := (bz1 hbk).2.2.2; have l0 := HR.out.lt; have r0 := HR.out.c0; have r1 := HR.out.c1; have f0 := HR.out.f0; have f1 := HR.out.f1) | (go_at_call 87; (with_reducible refine (CS.out _ _ _ _ (hn.al _)).mono ?_); rintro e w3 ⟨rfl, hbk2⟩; replace HR := hide (HR.out.upA hbk2); replace HW := bel_al HW hbk2; replace hn := nm_upA hn hbk2; clear r0 r1 f0 f1 l0; have l0 := HR.out.lt; have r0 := HR.out.c0; have r1 := HR.out.c1; have f0 := HR.out.f0; have f1 := HR.out.f1) | fail)
  refine bodyPost_ret (v := .tuple #[.agg #[.bool (decide (v < 0)), .slice B (dl v.natAbs) d], .bool true]) (by simp [results, Tryd.results26, go_sem, r0, r1]) rfl ?_
  exact ⟨B, d, rfl, zr_of (nm_z2 hn HR.out.c0 HR.out.c1), (HW.out.setCell (by simp) _).setCell (by simp) _⟩
theorem zparse_n (hs : s.size ≤ 99999) (h : s.data.toList = (if b then [45] else []) ++ l) (hb : b = false → l.head? ≠ some 45) (hd : ¬ digB l = true) : Calls Tryd.prog 26 #[.string s] W (ZPN W) := by
  have hll : l.length ≤ 99999 := by
    have := congrArg List.length h
    rw [← size_list, List.length_append] at this
    omega
  have CC := hide (fun (W' : World) => cut_h s W' (by omega) h hb)
  have CP : Hid (∀ (W' : World) (t : ByteArray), Hid (t.data.toList = l) → Calls Tryd.prog 16 #[.string t] W' (PsN W')) := fun W' t ht => parse_n t W' (by rw [size_list, ht.out]; exact hll) (by rw [ht.out]; exact hd)
  clear h hb hd hs hll
  go_enter Tryd.func26, Tryd.ntmps26
  go_wp2_with (first | (go_at_call 86; (with_reducible refine (CC.out _).mono ?_); rintro e w1 ⟨t, rfl, ht, rfl⟩) | (go_at_call 16; (with_reducible refine (CP.out _ t ht).mono ?_); rintro e w2 ⟨rfl, hbk⟩; have HR := hide ((zc_new _ _ _ _ _ _).up hbk); have HW : Hid (Below W.heap.size W w2) := (bz1 hbk).2.2.2; have l0 := HR.out.lt; have r0 := HR.out.c0; have r1 := HR.out.c1; have f0 := HR.out.f0; have f1 := HR.out.f1) | fail)
  have u0 := fun o => alc1 (o := o) (set2b (x := .bool false) (y := .slice none 0 0) HR.out).1
  have u1 := fun o => alc1 (o := o) (set2b (x := .bool false) (y := .slice none 0 0) HR.out).2
  refine bodyPost_ret (v := .tuple #[.agg #[.bool false, .slice none 0 0], .bool false]) (by simp [results, Tryd.results26, go_sem, u0, u1]) rfl ⟨rfl, ?_⟩
  exact ((HW.out.setCell (by simp) _).setCell (by simp) _).alloc (by have := HW.out.size; simpa [World.setCell] using this) _
/-- Good of a valid integer. -/
theorem zgood_h {A : Option Addr} {c : Nat} {z : Int} (h : ZA W (decide (z < 0)) A (dl z.natAbs) c z) : Calls Tryd.prog 29 #[.agg #[.bool (decide (z < 0)), .slice A (dl z.natAbs) c]] W (BoolR W true) := by
  have CG : Hid (∀ o, Calls Tryd.prog 20 #[.agg #[.slice A (dl z.natAbs) c]] (W.alloc o) (BoolR (W.alloc o) true)) := fun o => good_h (h.al o).1
  by_cases hn : z < 0
  · have CZ : Hid (∀ W', Below W.heap.size W W' → Calls Tryd.prog 88 #[.agg #[.slice A (dl z.natAbs) c]] W' (BoolR W' false)) := fun W' hb => za_some (h.up hb) (by omega)
    rw [decide_eq_true hn]
    clear h hn
    go_enter Tryd.func29, Tryd.ntmps29
    go_wp2_with (first | (go_at_call 20; (with_reducible refine (CG.out _).mono ?_); rintro e w1 ⟨rfl, hbk⟩; obtain ⟨e0, e1, hsz, hbx⟩ := bz1 hbk) | (go_at_call 88; (with_reducible refine (CZ.out _ hbx.out).mono ?_); rintro e w2 ⟨rfl, hbk2⟩) | fail)
    go_ret
    exact ⟨rfl, chain hbx hbk2.out⟩
  · rw [decide_eq_false hn]
    clear h hn
    go_enter Tryd.func29, Tryd.ntmps29
    go_wp2_with (first | (go_at_call 20; (with_reducible refine (CG.out _).mono ?_); rintro e w1 ⟨rfl, hbk⟩; obtain ⟨e0, e1, hsz, hbx⟩ := bz1 hbk) | fail)
    go_ret
    exact ⟨rfl, hbx⟩
end
end Go.Proofs.YteieelgdiccppaaDoor
end
