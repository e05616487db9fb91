/- Several texts in one, each with its own sentence and conditions. -/
import Derived.Test.YteieelgdiccppaaDoorGDknc8
import Derived.Maps.AppendAt
import Derived.Test.YteieelgdiccppaaDoorGDknc10
import Derived.Test.YteieelgdiccppaaDoorGDknc17
section
/- The document's own numbers: Sub. Conditions: at most 100000 fours of digits; a is at least b. -/
open Go.RowKit
set_option maxRecDepth 100000
namespace Go.Proofs.YteieelgdiccppaaDoor
theorem rsub_end {V m n k cr : Nat} (h : V + n = m + D4 ^ k * cr) (hV : V < D4 ^ k) (hnm : n ≤ m) (hc : cr ≤ 1) : V = m - n := by
  rcases Nat.eq_zero_or_pos cr with h0 | h0
  · rw [h0, Nat.mul_zero] at h; omega
  · obtain rfl : cr = 1 := by omega
    rw [Nat.mul_one] at h; omega
set_option maxHeartbeats 2000000 in
theorem rSub_any {A A' : Option Addr} {m n c c' : Nat} {w : World} (h : RN w w.heap.size A c m) (h' : RN w w.heap.size A' c' n) (hl : dq m ≤ 100000) (hnm : n ≤ m) :
    Calls Tryd.prog 94 #[.slice A (dq m) c, .slice A' (dq n) c'] w (RefPost w (m - n)) := by
  have HX := hide h
  have HY := hide h'
  have HNM := hide hnm
  have HLN : Hid (dq n ≤ dq m) := digs_len_mono (by decide) hnm
  obtain ⟨i0, hi0, hz0, hz1, hz2⟩ := info_parts Tryd.infoInt
  have I0 := hide hi0
  have Z0 := hide hz0
  have Z1 := hide hz1
  have Z2 := hide hz2
  clear hi0 hz0 hz1 hz2 h h' hnm
  go_enter Tryd.func94, Tryd.ntmps94
  go_wp2
  go_loopw [5, 6, 7] (fun dv cv iv wr => ∃ (i cr : Nat) (dd : List Nat), i ≤ dq m ∧ cr ≤ 1 ∧ cv = .int .i64 (cr : Int) ∧ iv = .int .i64 (i : Int) ∧ Hid (dd.length = i) ∧ Hid (Good4 dd) ∧
      Hid (val D4 dd + val D4 ((digs D4 n).take i) = val D4 ((digs D4 m).take i) + D4 ^ i * cr) ∧ Hid (wr.ownsRow w.heap.size 3 1 dv dd.length (dd.map I64)) ∧ Hid (Below w.heap.size w wr))
    (fun _ _ iv _ => dq m - (intOf iv).toNat)
  case atStart => exact ⟨0, 0, [], Nat.zero_le _, by omega, rfl, rfl, rfl, by intro x hx; simp at hx, by simp [Hid, val], World.ownsRow_nil _ _ _ _, Below.refl _ _⟩
  case round =>
    obtain ⟨i, cr, dd, hi, hcr, rfl, rfl, hdl, hdg, hval, hown, hbel⟩ := hrel
    by_cases hlt : i < dq m
    · obtain ⟨x, hx⟩ : ∃ x, x = (digs D4 m)[i]?.getD 0 := ⟨_, rfl⟩
      obtain ⟨y, hy⟩ : ∃ y, y = (digs D4 n)[i]?.getD 0 := ⟨_, rfl⟩
      have hx9 : x ≤ 9999 := by rw [hx]; exact getD_lt (good4_digs m) i
      have hy9 : y ≤ 9999 := by rw [hy]; exact getD_lt (good4_digs n) i
      have CX := hide (at_any (i := i) (c := c) (show dq m = (digs D4 m).length from rfl) (HX.out.below hbel.out).2)
      have CY := hide (at_any (i := i) (c := c') (show dq n = (digs D4 n).length from rfl) (HY.out.below hbel.out).2)
      have RX := hide (val_take_getD D4 (digs D4 m) i)
      have RY := hide (val_take_getD D4 (digs D4 n) i)
      rw [← hx] at CX RX
      rw [← hy] at CY RY
      have hdl2 : dd.length ≤ 300000 := by rw [hdl.out]; omega
      have H63 : Hid (dd.length + 1 ≤ maxLen) := by simp only [maxLen, Hid]; omega
      have HB : Hid (∀ u : Value, w.heap.size ≤ (wr.alloc (.cells #[u] 3)).heap.size) := fun u => by have := hbel.out.size; simp; omega
      have FIN : Hid (∀ (d cr' : Nat) (v2 : Value) (w3 : World), d + (cr + y) = x + D4 * cr' → d ≤ 9999 → w3.ownsRow w.heap.size 3 1 v2 (dd.length + 1) (dd.map I64 ++ [.int .i64 (d : Int)]) → Below w.heap.size w w3 →
          ∃ de : List Nat, Hid (de.length = i + 1) ∧ Hid (Good4 de) ∧ Hid (val D4 de + val D4 ((digs D4 n).take (i + 1)) = val D4 ((digs D4 m).take (i + 1)) + D4 ^ (i + 1) * cr') ∧ Hid (w3.ownsRow w.heap.size 3 1 v2 de.length (de.map I64)) ∧ Hid (Below w.heap.size w w3)) := by
        intro d cr' v2 w3 hd hd9 ho hb
        refine ⟨dd ++ [d], by unfold Hid; rw [List.length_append, hdl.out]; rfl, ?_, ?_, ?_, hb⟩
        · intro z hz
          rcases List.mem_append.1 hz with hz | hz
          · exact hdg.out z hz
          · simp at hz; subst hz; rw [D4_eq]; omega
        · unfold Hid
          rw [val_snoc, hdl.out, Nat.pow_succ, RX.out, RY.out]
          exact sub_math hval.out rfl hd
        · unfold Hid
          rw [List.length_append, List.map_append]
          exact ho
      clear hx hy
      by_cases hneg : x < y + cr
      · obtain ⟨d, hd⟩ : ∃ d, d + (y + cr) = x + 10000 := ⟨x + 10000 - (y + cr), by omega⟩
        have e1 : (x : Int) - (y : Int) - (cr : Int) + 10000 = (d : Int) := by omega
        have hneg2 : (x : Int) - (y : Int) - (cr : Int) < 0 := by omega
        have hneg3 : (x : Int) - (y : Int) < (cr : Int) := by omega
        have HD : Hid (d + (cr + y) = x + D4 * 1 ∧ d ≤ 9999) := by unfold Hid; rw [D4_eq]; omega
        clear hd
        go_wp2_with (first | (go_at_call 130; first | ((with_reducible refine CX.out.mono ?_); rintro e w' ⟨rfl, rfl⟩) | ((with_reducible refine CY.out.mono ?_); rintro e w' ⟨rfl, rfl⟩)) | (at_builtin; go_must (refine wpList_append_own _ rfl (.tmp 28) (.tmp 30) 39 rfl w.heap.size 3 i0 (.int .i64 0) 1 8 Tryd.underlying39 I0.out Z0.out Z1.out Z2.out rfl (by decide) _ _ _ rfl (hown.out.alloc _) ⟨wr.heap.size, 0, none⟩ 1 1 [.int .i64 (d : Int)] rfl rfl (cell_one_new _ _ _) (by intro u hu; simp at hu; subst hu; rfl) H63.out (by omega) (HB.out _) ?_; intro v2 w3 hown' hgrow hnil)))
        go_roundw
        case rel =>
          obtain ⟨de, g1, g2, g3, g4, g5⟩ := FIN.out d 1 v2 w3 HD.out.1 HD.out.2 hown' (app_below hown.out hbel.out (Nat.le_refl _) hgrow)
          exact ⟨i + 1, 1, de, by omega, by omega, rfl, by go_num, g1, g2, g3, g4, g5⟩
        case measure => simp [intOf]; omega
      · obtain ⟨d, hd⟩ : ∃ d, d + (y + cr) = x := ⟨x - (y + cr), by omega⟩
        have e1 : (x : Int) - (y : Int) - (cr : Int) = (d : Int) := by omega
        have HD : Hid (d + (cr + y) = x + D4 * 0 ∧ d ≤ 9999) := by unfold Hid; rw [D4_eq]; omega
        have hd0 : ¬ (d : Int) < 0 := by omega
        clear hd
        go_wp2_with (first | (go_at_call 130; first | ((with_reducible refine CX.out.mono ?_); rintro e w' ⟨rfl, rfl⟩) | ((with_reducible refine CY.out.mono ?_); rintro e w' ⟨rfl, rfl⟩)) | (at_builtin; go_must (refine wpList_append_own _ rfl (.tmp 28) (.tmp 30) 39 rfl w.heap.size 3 i0 (.int .i64 0) 1 8 Tryd.underlying39 I0.out Z0.out Z1.out Z2.out rfl (by decide) _ _ _ rfl (hown.out.alloc _) ⟨wr.heap.size, 0, none⟩ 1 1 [.int .i64 (d : Int)] rfl rfl (cell_one_new _ _ _) (by intro u hu; simp at hu; subst hu; rfl) H63.out (by omega) (HB.out _) ?_; intro v2 w3 hown' hgrow hnil)))
        go_roundw
        case rel =>
          obtain ⟨de, g1, g2, g3, g4, g5⟩ := FIN.out d 0 v2 w3 HD.out.1 HD.out.2 hown' (app_below hown.out hbel.out (Nat.le_refl _) hgrow)
          exact ⟨i + 1, 0, de, by omega, by omega, rfl, by go_num, g1, g2, g3, g4, g5⟩
        case measure => simp [intOf]; omega
    · obtain rfl : i = dq m := by omega
      have HV : Hid (val D4 dd = m - n) := by
        have h1 := hval.out
        rw [List.take_of_length_le (show (digs D4 m).length ≤ dq m from Nat.le_refl _), List.take_of_length_le (show (digs D4 n).length ≤ dq m from HLN.out), val_digs4, val_digs4] at h1
        have h2 := val_lt dd hdg.out
        rw [hdl.out] at h2
        exact rsub_end h1 h2 HNM.out hcr
      obtain ⟨A2, c2, he, hc, hr⟩ := row_rd hown.out
      cases he
      have HR := hide hr
      have hdl2 : dd.length ≤ 300000 := by rw [hdl.out]; omega
      go_wp2_with (first | (go_at_call 131; go_must (refine (rtrim_post rfl HV.out HR.out hdg.out (by omega) hc).mono ?_); rintro e w2 ⟨rfl, rfl⟩))
      go_ret
      exact ⟨A2, c2, rfl, rn_of rfl HV.out HR.out hdg.out hc, hbel⟩
end Go.Proofs.YteieelgdiccppaaDoor
end

section
/- Words for the document's own division: the reckoning, and append of any slice that reads as a list. No conditions. -/
open Go.RowKit
set_option maxRecDepth 100000
namespace Go.Proofs.YteieelgdiccppaaDoor
section
variable {P : Program} {w : World}
/-- Of a nil slice append adds nothing. -/
theorem app_nil (base : Nat) (t ty e : TypeId) (i : TypeInfo) (size : Nat) (ht : P.underlying t = some (.slice e)) (hi : P.info? e = some i)
    (v : Value) (n : Nat) (xs : List Value) (hown : w.ownsRow base e size v n xs) (c : Nat) : (Builtin.append_ #[t, t] ty #[v, .slice none 0 c]).run P w = .ok v w := by
  rcases hown.2 with ⟨rfl, rfl⟩ | ⟨g, cap, cur, rfl, _, _, hnc, _⟩
  · simp [Builtin.append_, run_underlying ht, sizeOf, typeInfo, hi, Builtin.lenOf, Builtin.firstCells]
  · simp [Builtin.append_, run_underlying ht, sizeOf, typeInfo, hi, Builtin.lenOf, Builtin.firstCells, hnc, storeCells]
theorem app_run {f : Nat → Value} (hf : ∀ x, (f x).oneCell' = true) (base : Nat) (t ty e : TypeId) (i : TypeInfo) (z : Value) (bytes : Nat) (ht : P.underlying t = some (.slice e)) (hi : P.info? e = some i) (hz : i.zero = some z)
    (hsize : i.size = 1) (hby : i.bytes = bytes) (hzs : z.cells.size = 1) {v : Value} {n : Nat} {xs : List Value} (hown : w.ownsRow base e 1 v n xs)
    {B : Nat} {A : Option Addr} {m c : Nat} {ws : List Nat} (hm : m = ws.length) (hr : Rd f w B A ws) (h63 : n + m ≤ maxLen) (hbytes : (n + m) * bytes ≤ 140737488355328) (hbase : base ≤ w.heap.size) :
    ∃ v' w', (Builtin.append_ #[t, t] ty #[v, .slice A m c]).run P w = .ok v' w' ∧ w'.ownsRow base e 1 v' (n + m) (xs ++ ws.map f) ∧ w.grownBy w' v.ownBlock ∧ (v'.ownBlock = v.ownBlock ∨ v'.ownBlock = some w.heap.size) := by
  subst hm
  by_cases h0 : ws = []
  · subst h0
    cases A with
    | none => exact ⟨v, w, app_nil base t ty e i 1 ht hi v n xs hown c, by simpa using hown, World.grownBy.refl w _, .inl rfl⟩
    | some ad =>
      obtain ⟨v', w', h1, h2, h3, _, h5⟩ := run_append_own_at (P := P) w base t ty e i z 1 bytes ht hi hz hsize hby hzs (by decide) v n xs hown ad 0 c [] (by simp) (by simp) (by simp) h63 hbytes hbase
      exact ⟨v', w', h1, by simpa using h2, h3, h5⟩
  · obtain ⟨ad, rfl, _, hc⟩ := hr (List.length_pos_iff.2 h0)
    obtain ⟨v', w', h1, h2, h3, _, h5⟩ := run_append_own_at (P := P) w base t ty e i z 1 bytes ht hi hz hsize hby hzs (by decide) v n xs hown ad ws.length c (ws.map f) (by simp) (fun j u hu => by
      rw [List.getElem?_map] at hu
      cases hj : ws[j]? with
      | none => rw [hj] at hu; cases hu
      | some x => rw [hj] at hu; injection hu with hu; rw [← hu]; exact hc j x hj) (by intro u hu; obtain ⟨x, _, rfl⟩ := List.mem_map.1 hu; exact hf x) h63 hbytes hbase
    exact ⟨v', w', h1, h2, h3, h5⟩
theorem wpList_app {f : Nat → Value} (hf : ∀ x, (f x).oneCell' = true) {ops : Array Oper} {rest : List Oper} {o : Oper} {a : Act} {Q : Exit → Act → World → Prop} (hgd : o.guard = none) (s x : Operand) (t : TypeId)
    (ho : o.op = .call { callee := .builtin .append, args := #[s, x], argTypes := #[t, t] }) (base : Nat) (e : TypeId) (i : TypeInfo) (z : Value) (bytes : Nat) (ht : P.underlying t = some (.slice e)) (hi : P.info? e = some i) (hz : i.zero = some z)
    (hsize : i.size = 1) (hby : i.bytes = bytes) (hzs : z.cells.size = 1) {v : Value} {n : Nat} {xs : List Value} (hs : a.eval s = v) (hown : w.ownsRow base e 1 v n xs)
    {B : Nat} {A : Option Addr} {m c : Nat} {ws : List Nat} (hx : a.eval x = .slice A m c) (hm : m = ws.length) (hr : Rd f w B A ws) (h63 : n + m ≤ maxLen) (hbytes : (n + m) * bytes ≤ 140737488355328) (hbase : base ≤ w.heap.size)
    (h : ∀ v' w', w'.ownsRow base e 1 v' (n + m) (xs ++ ws.map f) → w.grownBy w' v.ownBlock → (v'.ownBlock = v.ownBlock ∨ v'.ownBlock = some w.heap.size) → wpList P ops Q rest (a.put o.dst v') w') : wpList P ops Q (o :: rest) a w := by
  refine wpList_plain hgd fun K hK => ?_
  obtain ⟨v', w', h1, h2, h3, h4⟩ := app_run (P := P) hf base t o.type e i z bytes ht hi hz hsize hby hzs hown hm hr h63 hbytes hbase
  unfold Oper.wp execOp
  simp only [ho, resolve, invoke, builtin, Sem.run_bind, Sem.run_pure, Result.andThen_ok, List.map_toArray, List.map_cons, List.map_nil, hs, hx]
  rw [h1]
  exact hK _ _ (h v' w' h2 h3 h4)
end
/-- One digit of the quotient. -/
theorem rdiv_digit {n r x : Nat} (hr : r < n) (hx : x ≤ 9999) : (x + D4 * r) / n ≤ 9999 ∧ (x + D4 * r) - n * ((x + D4 * r) / n) < n ∧ n * ((x + D4 * r) / n) ≤ x + D4 * r := by
  have h0 : 0 < n := by omega
  have h1 : (x + D4 * r) / n < 10000 := by
    rw [Nat.div_lt_iff_lt_mul h0]
    have : D4 * (r + 1) ≤ 10000 * n := Nat.mul_le_mul (by decide) hr
    rw [Nat.mul_add, D4_eq] at this
    rw [D4_eq]; omega
  have h2 := Nat.div_add_mod (x + D4 * r) n
  have h3 := Nat.mod_lt (x + D4 * r) h0
  omega
theorem rdiv_step {n H r x M t r' : Nat} (hM : M = n * H + r) (ht : n * t + r' = x + D4 * r) : x + D4 * M = n * (t + D4 * H) + r' := by
  have e1 : n * (t + D4 * H) = n * t + D4 * (n * H) := by rw [Nat.mul_add, Nat.mul_left_comm]
  rw [hM, e1, Nat.mul_add]; omega
theorem rdiv_end {m n Q r : Nat} (hM : m = n * Q + r) (hr : r < n) : m / n = Q ∧ m % n = r := by
  exact (Nat.div_mod_unique (a := m) (b := n) (by omega)).2 ⟨by rw [hM, Nat.add_comm], hr⟩
theorem zeros_set {hi : List Nat} {i v : Nat} : (List.replicate (i + 1) 0 ++ hi).set i v = List.replicate i 0 ++ (v :: hi) := by
  rw [List.replicate_succ']
  rw [List.append_assoc, List.set_append_right _ _ (by simp)]
  simp
theorem val_drop_lt {m top : Nat} (h : top ≤ dq m) : val D4 ((digs D4 m).drop top) < D4 ^ (dq m - top) := by
  have := val_lt ((digs D4 m).drop top) (fun x hx => good4_digs m x (List.mem_of_mem_drop hx))
  rwa [List.length_drop] at this
/-- The bisection's step. -/
theorem bis_le {n s t : Nat} (h0 : 0 < n) : n * s ≤ t ↔ s ≤ t / n := by rw [Nat.mul_comm]; exact (Nat.le_div_iff_mul_le h0).symm
end Go.Proofs.YteieelgdiccppaaDoor
end

section
/- The document's own numbers: Div. Conditions: at most 100000 fours of digits, a divisor above 0. -/
open Go.RowKit
set_option maxRecDepth 100000
namespace Go.Proofs.YteieelgdiccppaaDoor
def RDivR (w : World) (q r : Nat) (e : Ending) (w' : World) : Prop :=
  ∃ A c A' c', e = .returned (.tuple #[.slice A (dq q) c, .slice A' (dq r) c']) ∧ Hid (RN w' w'.heap.size A c q) ∧ Hid (RN w' w'.heap.size A' c' r) ∧ Hid (Below w.heap.size w w')
theorem rn_nil (w : World) (B : Nat) (A : Option Addr) (c : Nat) : RN w B A c 0 := ⟨by rw [dq_zero]; exact Nat.zero_le _, by rw [digs_zero]; exact Rd.nil⟩
set_option maxHeartbeats 2000000 in
theorem rDiv_short {A A' : Option Addr} {m n c c' : Nat} {w : World} (h : RN w w.heap.size A c m) (hl : dq m ≤ 100000) (hl' : dq n ≤ 100000) (hs : dq m + 1 < dq n) :
    Calls Tryd.prog 93 #[.slice A (dq m) c, .slice A' (dq n) c'] w (RDivR w (m / n) (m % n)) := by
  have hmn : m < n := digs_len_lt (b := D4) (by decide) (show dq m < dq n by omega)
  have HX := hide h
  rw [Nat.div_eq_of_lt hmn, Nat.mod_eq_of_lt hmn]
  obtain ⟨k, hk⟩ : ∃ k : Int, (dq m : Int) - (dq n : Int) + 1 = k := ⟨_, rfl⟩
  have h0 : k < 0 := by omega
  clear h hmn
  go_enter Tryd.func93, Tryd.ntmps93
  go_wp2_with (first | (at_make; go_must (refine wpList_ints rfl _ _ rfl (dq m) _ rfl rfl (by omega) (by omega) ?_; intro g w1 hg hb1 hbel)))
  refine bodyPost_ret (v := .tuple #[.slice none 0 0, .slice A (dq m) c]) (by simp [results, Tryd.results93, go_sem]) rfl ?_
  exact ⟨none, 0, A, c, by rw [dq_zero], rn_nil _ _ _ _, (HX.out.below hbel).more hbel.size, hbel⟩
theorem slice_from (t e : TypeId) (i : TypeInfo) (ht : Tryd.prog.underlying t = some (.slice e)) (hi : Tryd.prog.info? e = some i) (hs : i.size = 1) (A : Option Addr) {n c k : Nat} (hk : k ≤ n) (W : World) :
    (Instr.sliceAt t (.slice A n c) (some (.int .i64 (k : Int))) none none).run Tryd.prog W = .ok (.slice (if c = k then A else A.map (·.add k)) (n - k) (c - k)) W := by
  have he : Tryd.prog.elem t = e := by simp [Program.elem, ht]
  have h2 : Tryd.prog.underlying t = some (.slice (Tryd.prog.elem t)) := by rw [he]; exact ht
  rw [run_sliceAt_slice W t _ _ _ _ h2, run_slice_l W t A n c h2 .i64 (k : Int) (by omega) (by omega), he]
  simp [sizeOf, typeInfo, hi, hs, sliced, Result.andThen]
/-- The row that append leaves, read as a list. -/
theorem row_own {w : World} {base n : Nat} {t : TypeId} {v : Value} {xs : List Value} {f : Nat → Value} {dd : List Nat} (h : w.ownsRow base t 1 v n xs) (hn : n = dd.length) (hx : xs = dd.map f) :
    ∃ A c, v = .slice A n c ∧ n ≤ c ∧ Rd f w w.heap.size A dd ∧ (∀ ad, A = some ad → v.ownBlock = some ad.block) := by
  subst hn; subst hx
  obtain ⟨A, c, rfl, h1, h2⟩ := row_rd h
  exact ⟨A, c, rfl, h1, h2, fun ad e => by subst e; rfl⟩
theorem RN.set {w : World} {B : Nat} {A : Option Addr} {c m g i : Nat} (h : RN w B A c m) (hg : ∀ ad, A = some ad → ad.block ≠ g) (u : Value) : RN (w.setCell ⟨g, i, none⟩ u) B A c m := by
  refine ⟨h.1, fun hn => ?_⟩
  obtain ⟨ad, e, hb, hx⟩ := h.2 hn
  refine ⟨ad, e, hb, fun j x hj => ?_⟩
  rw [World.cell?_setCell_other w ⟨g, i, none⟩ _ u (by intro e2; exact hg ad e (by rw [← block_add ad j, ← e2]))]
  exact hx j x hj
theorem dq_mul_le {n s : Nat} (hl : dq n ≤ 100000) (hs : s ≤ 9999) : dq (n * s) ≤ 1000000 := by
  have h1 : n < D4 ^ dq n := lt_pow_digs (b := D4) (by decide) n
  have h2 : n * s < D4 ^ (dq n + 1) := by
    rw [Nat.pow_succ]
    exact Nat.lt_of_le_of_lt (Nat.mul_le_mul_left n (show s ≤ D4 by rw [D4_eq]; omega)) (Nat.mul_lt_mul_of_pos_right h1 (by decide))
  have := dq_le h2
  omega
theorem dq_step {n r x : Nat} (hl : dq n ≤ 99999) (hr : r < n) (hx : x ≤ 9999) : dq (x + D4 * r) ≤ 100000 := by
  have h1 : n < D4 ^ dq n := lt_pow_digs (b := D4) (by decide) n
  have h2 : x + D4 * r < D4 ^ (dq n + 1) := by
    rw [Nat.pow_succ]
    generalize D4 ^ dq n = P at h1
    have h3 : (r + 1) * 10000 ≤ P * 10000 := Nat.mul_le_mul_right _ (by omega)
    rw [D4_eq]
    omega
  have := dq_le h2
  omega
set_option maxHeartbeats 8000000 in
theorem rDiv_long {A A' : Option Addr} {m n c c' top : Nat} {w : World} (h : RN w w.heap.size A c m) (h' : RN w w.heap.size A' c' n) (hl : dq m ≤ 99999) (hl' : dq n ≤ 99999) (hn : 0 < n) (ht : top + dq n = dq m + 1) :
    Calls Tryd.prog 93 #[.slice A (dq m) c, .slice A' (dq n) c'] w (RDivR w (m / n) (m % n)) := by
  have hn1 : 1 ≤ dq n := by
    rcases Nat.eq_zero_or_pos (dq n) with h0 | h0
    · have := (digs_len_pos (b := D4) (n := n) (by decide)).1 h0; omega
    · exact h0
  have HX := hide h
  have HY := hide h'
  have e1 : (dq m : Int) - (dq n : Int) + 1 = (top : Int) := by omega
  have hc := h.1
  obtain ⟨i0, hi0, hz0, hz1, hz2⟩ := info_parts Tryd.infoInt
  have I0 := hide hi0
  have Z0 := hide hz0
  have Z1 := hide hz1
  have Z2 := hide hz2
  clear hi0 hz0 hz1 hz2 h h'
  have htm : top ≤ dq m := by omega
  have ht1 : ¬ dq m < top := by omega
  have ht2 : ¬ (top : Int) < 0 := by omega
  have HS := hide (slice_from 39 3 i0 Tryd.underlying39 I0.out Z1.out A (c := c) htm)
  have HD : Hid (Rd I64 w w.heap.size (if c = top then A else A.map (·.add top)) ((digs D4 m).drop top)) := HX.out.2.cut hc
  obtain ⟨D, hD⟩ : ∃ D, D = (if c = top then A else A.map (·.add top)) := ⟨_, rfl⟩
  rw [← hD] at HS HD
  obtain ⟨r0, hr0⟩ : ∃ r, r = val D4 ((digs D4 m).drop top) := ⟨_, rfl⟩
  have HR0 : Hid (r0 < n) := by
    have h1 := val_drop_lt (m := m) htm
    rw [← hr0] at h1
    have h2 := pow_le_of_digs (b := D4) (n := n) (by decide) hn
    rw [show (digs D4 n).length - 1 = dq m - top by unfold dq at *; omega] at h2
    exact Nat.lt_of_lt_of_le h1 h2
  have GD : Hid (Good4 ((digs D4 m).drop top)) := fun x hx => good4_digs m x (List.mem_of_mem_drop hx)
  have HDL : Hid (dq m - top = ((digs D4 m).drop top).length) := by unfold Hid; rw [List.length_drop]; rfl
  have HTL : Hid (∀ j, j ≤ dq m → ((digs D4 m).drop j).length = dq m - j) := fun j _ => by rw [List.length_drop]; rfl
  clear hD
  have HRE := hide hr0.symm
  clear hr0
  have hS := HS.out
  go_enter Tryd.func93, Tryd.ntmps93
  go_wp2_with (first | (at_make; go_must (refine wpList_ints rfl _ _ rfl (dq m) _ rfl rfl (by omega) (by omega) ?_; intro g w1 hg hb1 hbel)) | (at_builtin; go_must (refine wpList_app (f := I64) (fun _ => rfl) rfl (.tmp 31) (.tmp 34) 39 rfl w.heap.size 3 i0 (.int .i64 0) 8 Tryd.underlying39 I0.out Z0.out Z1.out Z2.out rfl (v := .slice (some ⟨w1.heap.size, 0, none⟩) 0 0) (n := 0) (xs := []) rfl (World.ownsRow_lit w1 #[] 0 hbel.size (by simp only [maxLen]; omega) rfl) (B := w.heap.size) (A := D) (m := dq m - top) (c := c - top) (ws := (digs D4 m).drop top) rfl HDL.out ((HD.out.below hbel).below ((Below.refl _ _).alloc hbel.size _)) (by simp only [maxLen]; omega) (by omega) (by have := hbel.size; simp; omega) ?_; intro v2 w2 hown2 hgrow hat; obtain ⟨A2, c2, rfl, hc2, hr2, hab⟩ := row_own (f := I64) (dd := (digs D4 m).drop top) hown2 (by rw [Nat.zero_add]; exact HDL.out) (by simp); rw [Nat.zero_add] at hc2; simp only [Nat.zero_add])) | (go_at_call 131; (with_reducible refine (rtrim_post HDL.out HRE.out hr2 GD.out (by omega) hc2).mono ?_); rintro e w3 ⟨rfl, rfl⟩) | fail)
  have hgw : w.heap.size ≤ g := by rw [hg.out]; exact Nat.le_refl _
  have hgb : g < w1.heap.size := hb1.out.lt
  have HB3 : Hid (Below w.heap.size w w2) := (hbel.alloc hbel.size _).grown hgrow (by have := hbel.size; simp; omega) (fun k hk => by have e : some w1.heap.size = some k := hk; injection e with e; have := hbel.size; omega)
  have HQ3 : Hid (Blk I64 3 w2 g (List.replicate (dq m) 0)) := (hb1.out.alloc _).grown hgrow (by intro e; have e2 : some g = some w1.heap.size := e; injection e2 with e2; omega)
  have HR3 : Hid (RN w2 w2.heap.size A2 c2 r0) := rn_of HDL.out HRE.out hr2 GD.out hc2
  have HT3 : Hid (val D4 ((digs D4 m).drop top) = n * val D4 (List.replicate (dq m - top) 0) + r0) := by unfold Hid; rw [val_zeros, HRE.out, Nat.mul_zero, Nat.zero_add]
  clear hg hgb hgrow hat hab hr2 hc2 hown2 hbel hb1 HD HRE HDL GD hS HS
  go_loopw [8, 9] (fun rv iv wr => ∃ (j r : Nat) (R : Option Addr) (d : Nat) (hi : List Nat), j ≤ top ∧ iv = .int .i64 ((j : Int) - 1) ∧ rv = .slice R (dq r) d ∧ Hid (RN wr wr.heap.size R d r) ∧ Hid (r < n) ∧ Hid (hi.length = dq m - j) ∧ Hid (Good4 hi) ∧
      Hid (val D4 ((digs D4 m).drop j) = n * val D4 hi + r) ∧ Hid (Blk I64 3 wr g (List.replicate j 0 ++ hi)) ∧ Hid (Below w.heap.size w wr))
    (fun _ iv _ => (intOf iv + 1).toNat)
  case atStart =>
    refine ⟨top, r0, A2, c2, List.replicate (dq m - top) 0, Nat.le_refl _, rfl, rfl, HR3, HR0, by simp [Hid], by intro x hx; rw [(List.mem_replicate.1 hx).2]; decide, HT3, ?_, HB3⟩
    have h1 := HQ3.out
    rw [show dq m = top + (dq m - top) by omega, ← List.replicate_append_replicate] at h1
    exact h1
  case round =>
    obtain ⟨j, r, R, d, hi, hj, rfl, rfl, hr, hrn, hhl, hhg, hval, hblk, hbw⟩ := hrel
    by_cases h0 : j = 0
    · subst h0
      have HV : Hid (m / n = val D4 hi ∧ m % n = r) := by
        have h1 := hval.out
        rw [List.drop_zero, val_digs4] at h1
        exact rdiv_end h1 hrn.out
      have HLN : Hid (dq m = (List.replicate 0 0 ++ hi).length) := by unfold Hid; simp [hhl.out]
      have HVV : Hid (val D4 (List.replicate 0 0 ++ hi) = val D4 hi) := by simp [Hid]
      have HGG : Hid (Good4 (List.replicate 0 0 ++ hi)) := by simpa [Hid] using hhg.out
      have HRD := hide (hblk.out.rd0 hblk.out.lt)
      go_wp2_with (first | (go_at_call 131; (with_reducible refine (rtrim_post HLN.out HVV.out HRD.out HGG.out (by omega) (Nat.le_refl _)).mono ?_); rintro e w4 ⟨rfl, rfl⟩) | fail)
      refine bodyPost_ret (v := .tuple #[.slice (some ⟨g, 0, none⟩) (dq (val D4 hi)) (dq m), .slice R (dq r) d]) (by simp [results, Tryd.results93, go_sem]) rfl ?_
      show RDivR w (m / n) (m % n) _ _
      rw [HV.out.1, HV.out.2]
      exact ⟨_, _, _, _, rfl, rn_of HLN.out HVV.out HRD.out HGG.out (Nat.le_refl _), hr, hbw⟩
    · obtain ⟨i, rfl⟩ : ∃ i, j = i + 1 := ⟨j - 1, by omega⟩
      have hi' : i < (digs D4 m).length := by have : (digs D4 m).length = dq m := rfl; omega
      obtain ⟨ad, rfl, hab, hcell⟩ := ((HX.out.below hbw.out).2).at_ hi'
      obtain ⟨x, hx⟩ : ∃ x, x = (digs D4 m)[i] := ⟨_, rfl⟩
      rw [← hx] at hcell
      unfold I64 at hcell
      have hx9 : x ≤ 9999 := by rw [hx]; have h4 : D4 = 10000 := rfl; have := good4_digs m _ (List.getElem_mem hi'); omega
      have HDR : Hid ((digs D4 m).drop i = x :: (digs D4 m).drop (i + 1)) := by unfold Hid; rw [List.drop_eq_getElem_cons hi', ← hx]
      obtain ⟨r', hr'⟩ : ∃ r', r' = x + D4 * r := ⟨_, rfl⟩
      obtain ⟨t, htt⟩ : ∃ t, t = r' / n := ⟨_, rfl⟩
      have HDG := hide (rdiv_digit hrn.out hx9)
      have hq' : dq r' ≤ 100000 := by rw [hr']; exact dq_step (by omega) hrn.out hx9
      have HV1 : Hid (val D4 (x :: digs D4 r) = r') := by unfold Hid; rw [hr']; show x + D4 * val D4 (digs D4 r) = _; rw [val_digs4]
      rw [← hr', ← htt] at HDG
      have ht9 : t ≤ 9999 := HDG.out.1
      have HG1 : Hid (Good4 (x :: digs D4 r)) := by
        intro z hz
        rcases List.mem_cons.1 hz with rfl | hz
        · rw [D4_eq]; omega
        · exact good4_digs r z hz
      have HL1 : Hid (1 + dq r = (x :: digs D4 r).length) := by unfold Hid; rw [List.length_cons, Nat.add_comm]; rfl
      have hqr : dq r ≤ 100000 := Nat.le_trans (digs_len_mono (b := D4) (by decide) (Nat.le_of_lt hrn.out)) (by have : (digs D4 n).length = dq n := rfl; omega)
      have hii : i < dq m := hi'
      have HBIS := hide (fun s => bis_le (n := n) (s := s) (t := r') hn)
      rw [← htt] at HBIS
      have HST := hide (fun r2 (h : n * t + r2 = r') => rdiv_step hval.out (show n * t + r2 = x + D4 * r by rw [h, hr']))
      have HHR := hide hr'
      clear hx hi' h0 hr' htt
      go_wp2_with (first | (at_builtin; go_must (refine wpList_app (f := I64) (fun _ => rfl) rfl (.tmp 48) (.tmp 49) 39 rfl w.heap.size 3 i0 (.int .i64 0) 8 Tryd.underlying39 I0.out Z0.out Z1.out Z2.out rfl (v := .slice (some ⟨wr.heap.size, 0, none⟩) 1 1) (n := 1) (xs := [.int .i64 (x : Int)]) rfl (World.ownsRow_lit wr #[.int .i64 (x : Int)] 1 hbw.out.size (by simp only [maxLen]; omega) rfl) (B := wr.heap.size) (A := R) (m := dq r) (c := d) (ws := digs D4 r) rfl rfl (hr.out.2.below ((Below.refl _ _).alloc (Nat.le_refl _) _)) (by simp only [maxLen]; omega) (by omega) (by have := hbw.out.size; simp; omega) ?_; intro v4 w4 hown4 hgrow hat; obtain ⟨A4, c4, rfl, hc4, hr4, hab4⟩ := row_own (f := I64) (dd := x :: digs D4 r) hown4 HL1.out (by simp [I64]))) | (go_at_call 131; (with_reducible refine (rtrim_post HL1.out HV1.out hr4 HG1.out (by omega) hc4).mono ?_); rintro e w5 ⟨rfl, rfl⟩) | fail)
      have hgr : g < wr.heap.size := hblk.out.lt
      have HB4 : Hid (Below w.heap.size w w4) := (hbw.out.alloc hbw.out.size _).grown hgrow (by have := hbw.out.size; simp; omega) (fun k hk => by have e : some wr.heap.size = some k := hk; injection e with e; have := hbw.out.size; omega)
      have HQ4 : Hid (Blk I64 3 w4 g (List.replicate (i + 1) 0 ++ hi)) := (hblk.out.alloc _).grown hgrow (by intro e; have e2 : some g = some wr.heap.size := e; injection e2 with e2; omega)
      have HR4 : Hid (RN w4 w4.heap.size A4 c4 r') := rn_of HL1.out HV1.out hr4 HG1.out hc4
      have HN4 : Hid (∀ ad, A4 = some ad → ad.block ≠ g) := fun ad4 e4 => by
        have h1 := hab4 ad4 e4
        rcases hat with h2 | h2
        · rw [h1] at h2
          have e : some ad4.block = some wr.heap.size := h2
          injection e with e; omega
        · rw [h1] at h2
          injection h2 with h2
          simp at h2; omega
      clear hgr hgrow hat hab4 hr4 hc4 hown4 hcell
      go_loopw [10, 11] (fun lo hv wz => ∃ a b : Nat, lo = .int .i64 (a : Int) ∧ hv = .int .i64 (b : Int) ∧ a ≤ t ∧ t ≤ b ∧ b ≤ 9999 ∧ Hid (Below w4.heap.size w4 wz)) (fun lo hv _ => (intOf hv).toNat - (intOf lo).toNat)
      case atStart => exact ⟨0, 9999, rfl, rfl, Nat.zero_le _, ht9, Nat.le_refl _, Below.refl _ _⟩
      case round =>
        obtain ⟨a, b, rfl, rfl, ha, hb, hb9, hbz⟩ := hrel
        by_cases hab2 : a < b
        · obtain ⟨s, hs⟩ : ∃ s, s = (a + b + 1) / 2 := ⟨_, rfl⟩
          have hs1 : a < s := by omega
          have hs2 : s ≤ b := by omega
          have e2 : ((a : Int) + (b : Int) + 1) / 2 = (s : Int) := by omega
          have e3 : ((a : Int) + (b : Int) + 1).tdiv 2 = (s : Int) := by rw [Int.tdiv_eq_ediv_of_nonneg (by omega)]; exact e2
          have HS1 : Hid (s - 1 < s ∧ (s : Int) - 1 = ((s - 1 : Nat) : Int)) := by unfold Hid; omega
          clear hs
          have hs9 : s ≤ 9999 := by omega
          have hqm := dq_mul_le (n := n) (s := s) (by omega) hs9
          have CS : Hid (Calls Tryd.prog 19 #[.int .u64 (s : Int)] wr (RefPost wr s)) := Small_any (by omega)
          have HYz : Hid (RN wr wr.heap.size A' c' n) := (HY.out.below (HB4.out.trans (hbz.out.mono HB4.out.size))).more (Nat.le_trans HB4.out.size hbz.out.size)
          have CM : Hid (∀ W B d, Hid (RN W W.heap.size B d s) → Hid (Below wr.heap.size wr W) → Calls Tryd.prog 96 #[.slice A' (dq n) c', .slice B (dq s) d] W (RefPost W (n * s))) := fun W B d h1 h2 => rMul_any ((HYz.out.below h2.out).more h2.out.size) h1.out (by omega) (Nat.le_trans (dq_u64 (by omega)) (by omega))
          have HR6 : Hid (∀ W, Below wr.heap.size wr W → RN W W.heap.size A4 c4 r') := fun W h2 => (((HR4.out.below hbz.out).more hbz.out.size).below h2).more h2.size
          by_cases hle : n * s ≤ r'
          · have hst : s ≤ t := (HBIS.out s).1 hle
            obtain ⟨v, hv, hv0⟩ : ∃ v, cmpI (n * s) r' = v ∧ v ≤ 0 := by
              rcases Nat.lt_or_eq_of_le hle with h | h
              · exact ⟨_, cmpI_lt h, by decide⟩
              · exact ⟨_, cmpI_eq h, by decide⟩
            have CC : Hid (∀ W B d, Hid (RN W W.heap.size B d (n * s)) → Below wr.heap.size wr W → Calls Tryd.prog 83 #[.slice B (dq (n * s)) d, .slice A4 (dq r') c4] W (fun e w' => e = .returned (.int .i64 v) ∧ ∃ q, w' = W.drewN q)) := fun W B d h1 h2 => by rw [← hv]; exact rCmp_any h1.out (HR6.out W h2) (by omega) (by omega)
            clear hv hle
            go_wp2_with (first | (go_at_call 19; (with_reducible refine CS.out.mono ?_); rintro e w6 ⟨B6, d6, rfl, hn6, hbk6⟩) | (go_at_call 96; (with_reducible refine (CM.out _ _ _ hn6 hbk6).mono ?_); rintro e w7 ⟨B7, d7, rfl, hn7, hbk7⟩) | (go_at_call 83; (with_reducible refine (CC.out _ _ _ hn7 (hbk6.out.trans (hbk7.out.mono hbk6.out.size))).mono ?_); rintro e w8 ⟨rfl, nq, rfl⟩) | fail)
            go_roundw
            case rel => exact ⟨s, b, rfl, rfl, hst, hb, hb9, below_drewN ((hbz.out.trans (hbk6.out.mono hbz.out.size)).trans (hbk7.out.mono (Nat.le_trans hbz.out.size hbk6.out.size))) _⟩
            case measure => simp [intOf]; omega
          · have hst : ¬ s ≤ t := fun h => hle ((HBIS.out s).2 h)
            obtain ⟨v, hv, hv0⟩ : ∃ v, cmpI (n * s) r' = v ∧ ¬ v ≤ 0 := ⟨_, cmpI_gt (by omega), by decide⟩
            have CC : Hid (∀ W B d, Hid (RN W W.heap.size B d (n * s)) → Below wr.heap.size wr W → Calls Tryd.prog 83 #[.slice B (dq (n * s)) d, .slice A4 (dq r') c4] W (fun e w' => e = .returned (.int .i64 v) ∧ ∃ q, w' = W.drewN q)) := fun W B d h1 h2 => by rw [← hv]; exact rCmp_any h1.out (HR6.out W h2) (by omega) (by omega)
            clear hv hle
            go_wp2_with (first | (go_at_call 19; (with_reducible refine CS.out.mono ?_); rintro e w6 ⟨B6, d6, rfl, hn6, hbk6⟩) | (go_at_call 96; (with_reducible refine (CM.out _ _ _ hn6 hbk6).mono ?_); rintro e w7 ⟨B7, d7, rfl, hn7, hbk7⟩) | (go_at_call 83; (with_reducible refine (CC.out _ _ _ hn7 (hbk6.out.trans (hbk7.out.mono hbk6.out.size))).mono ?_); rintro e w8 ⟨rfl, nq, rfl⟩) | fail)
            go_roundw
            case rel => exact ⟨a, s - 1, rfl, by rw [HS1.out.2], ha, by omega, by omega, below_drewN ((hbz.out.trans (hbk6.out.mono hbz.out.size)).trans (hbk7.out.mono (Nat.le_trans hbz.out.size hbk6.out.size))) _⟩
            case measure => have := HS1.out; simp [intOf]; omega
        · obtain rfl : a = t := by omega
          have HBz : Hid (Below w.heap.size w wr) := HB4.out.trans (hbz.out.mono HB4.out.size)
          have HQz : Hid (Blk I64 3 wr g (List.replicate (i + 1) 0 ++ hi)) := hbz.out.block g HQ4.out.lt |>.trans HQ4.out
          have HRz : Hid (RN wr wr.heap.size A4 c4 r') := (HR4.out.below hbz.out).more hbz.out.size
          have hcs : wr.cell? ⟨g, i, none⟩ = some (.int .i64 0) := HQz.out.cell (by rw [List.getElem?_append_left (by simp)]; simp)
          have hfz := HQz.out.frozen i
          have CS : Hid (∀ W, Calls Tryd.prog 19 #[.int .u64 (a : Int)] W (RefPost W a)) := fun W => Small_any (by omega)
          have CM : Hid (∀ W B d, Hid (RN W W.heap.size B d a) → Below w.heap.size w W → Calls Tryd.prog 96 #[.slice A' (dq n) c', .slice B (dq a) d] W (RefPost W (n * a))) := fun W B d h1 h2 => rMul_any ((HY.out.below h2).more h2.size) h1.out (by omega) (Nat.le_trans (dq_u64 (by omega)) (by omega))
          have CB : Hid (∀ W B d, Hid (RN W W.heap.size B d (n * a)) → RN W W.heap.size A4 c4 r' → Calls Tryd.prog 94 #[.slice A4 (dq r') c4, .slice B (dq (n * a)) d] W (RefPost W (r' - n * a))) := fun W B d h1 h2 => rSub_any h2 h1.out (by omega) HDG.out.2.2
          have CR : Hid (∀ u W, Below (wr.setCell ⟨g, i, none⟩ u).heap.size (wr.setCell ⟨g, i, none⟩ u) W → RN W W.heap.size A4 c4 r') := fun u W hb => by
            have h1 := HRz.out.set HN4.out (i := i) u
            have e : (wr.setCell ⟨g, i, none⟩ u).heap.size = wr.heap.size := by simp [World.setCell]
            rw [← e] at h1
            exact (h1.below hb).more hb.size
          go_wp2_with (first | (go_at_call 19; (with_reducible refine (CS.out _).mono ?_); rintro e w6 ⟨B6, d6, rfl, hn6, hbk6⟩) | (go_at_call 96; (with_reducible refine (CM.out _ _ _ hn6 ((HBz.out.setCell hgw _).trans (hbk6.out.mono (HBz.out.setCell hgw _).size))).mono ?_); rintro e w7 ⟨B7, d7, rfl, hn7, hbk7⟩) | (go_at_call 94; (with_reducible refine (CB.out _ _ _ hn7 (CR.out _ _ (hbk6.out.trans (hbk7.out.mono hbk6.out.size)))).mono ?_); rintro e w8 ⟨B8, d8, rfl, hn8, hbk8⟩) | fail)
          have HW8 : Hid (Below (wr.setCell ⟨g, i, none⟩ (.int .i64 (a : Int))).heap.size (wr.setCell ⟨g, i, none⟩ (.int .i64 (a : Int))) w8) := (hbk6.out.trans (hbk7.out.mono hbk6.out.size)).trans (hbk8.out.mono (Nat.le_trans hbk6.out.size hbk7.out.size))
          go_roundw
          case rel =>
            refine ⟨i, r' - n * a, B8, d8, a :: hi, by omega, rfl, rfl, hn8, HDG.out.2.1, ?_, ?_, ?_, ?_, ?_⟩
            · have := hhl.out; unfold Hid; rw [List.length_cons]; omega
            · intro z hz
              rcases List.mem_cons.1 hz with rfl | hz
              · rw [D4_eq]; omega
              · exact hhg.out z hz
            · unfold Hid
              rw [HDR.out]
              exact HST.out _ (by have := HDG.out.2.2; omega)
            · have h1 := HQz.out.set_ i a
              rw [zeros_set] at h1
              exact (HW8.out.block g (by simpa [World.setCell] using HQz.out.lt)).trans h1
            · exact (HBz.out.setCell hgw _).trans (HW8.out.mono (HBz.out.setCell hgw _).size)
          case measure => simp [intOf]

theorem rDiv_any {A A' : Option Addr} {m n c c' : Nat} {w : World} (h : RN w w.heap.size A c m) (h' : RN w w.heap.size A' c' n) (hl : dq m ≤ 99999) (hl' : dq n ≤ 99999) (hn : 0 < n) :
    Calls Tryd.prog 93 #[.slice A (dq m) c, .slice A' (dq n) c'] w (RDivR w (m / n) (m % n)) := by
  by_cases hs : dq m + 1 < dq n
  · exact rDiv_short h (by omega) (by omega) hs
  · exact rDiv_long (top := dq m + 1 - dq n) h h' hl hl' hn (by omega)
end Go.Proofs.YteieelgdiccppaaDoor
end

section
/- The document's own numbers: Gcd. Conditions: less than 100000 fours of digits. -/
open Go.RowKit
set_option maxRecDepth 100000
namespace Go.Proofs.YteieelgdiccppaaDoor
theorem dq_pos {n : Nat} : 0 < dq n ↔ 0 < n := by
  have := digs_len_pos (b := D4) (n := n) (by decide)
  have e : (digs D4 n).length = dq n := rfl
  omega
end Go.Proofs.YteieelgdiccppaaDoor
end

section
/- The document's own integers. No conditions. -/
open Go.RowKit
set_option maxRecDepth 100000
namespace Go.Proofs.YteieelgdiccppaaDoor
/-- What a call of the document's own leaves that returns an integer. -/
def RZ (W : World) (z : Int) (e : Ending) (w' : World) : Prop := ∃ A c, e = .returned (.agg #[.bool (decide (z < 0)), .slice A (dq z.natAbs) c]) ∧ Hid (RN w' w'.heap.size A c z.natAbs) ∧ Hid (Below W.heap.size W w')
theorem RN.setn {W : World} {B : Nat} {A : Option Addr} {c m : Nat} (h : RN W B A c m) {p : Addr} {v : Value} (hc : W.cell? p = some v) (hv : ∀ x : Nat, v ≠ I64 x) (u : Value) : RN (W.setCell p u) B A c m := by
  refine ⟨h.1, fun hn => ?_⟩
  obtain ⟨ad, e, hb, hx⟩ := h.2 hn
  refine ⟨ad, e, hb, fun j x hj => ?_⟩
  have h6 := hx j x hj
  rw [World.cell?_setCell_other W p _ u (by intro e; rw [← e, hc] at h6; injection h6 with h6; exact hv x h6)]
  exact h6
theorem rn_z2 {W : World} {A : Option Addr} {c m g : Nat} {v0 : Bool} {a : Option Addr} {l k : Nat} {x y : Value} (h : Hid (RN W W.heap.size A c m)) (e0 : W.cell? ⟨g, 0, none⟩ = some (.bool v0)) (e1 : W.cell? ⟨g, 1, none⟩ = some (.slice a l k)) :
    Hid (RN ((W.setCell ⟨g, 0, none⟩ x).setCell ⟨g, 1, none⟩ y) ((W.setCell ⟨g, 0, none⟩ x).setCell ⟨g, 1, none⟩ y).heap.size A c m) := by
  have h1 := (h.out.setn e0 (by intro x hx; cases hx) x).setn (p := ⟨g, 1, none⟩) ((World.cell?_setCell_other _ _ _ _ (by intro e; cases e)).trans e1) (by intro x hx; cases hx) y
  have : ((W.setCell ⟨g, 0, none⟩ x).setCell ⟨g, 1, none⟩ y).heap.size = W.heap.size := by simp [World.setCell]
  unfold Hid
  rw [this]; exact h1
section
variable {W : World} {z : Int}
set_option maxHeartbeats 2000000 in
theorem zint_h (h1 : -9223372036854775808 ≤ z) (h2 : z ≤ 9223372036854775807) : Calls Tryd.prog 34 #[.int .i64 z] W (RZ W z) := by
  by_cases hn : z < 0
  · have e : -(z + 1) = ((z.natAbs - 1 : Nat) : Int) := by omega
    have CS1 : Hid (∀ W', Calls Tryd.prog 19 #[.int .u64 (-(z + 1))] W' (RefPost W' (z.natAbs - 1))) := fun W' => by rw [e]; exact Small_any (by omega)
    have CS2 : Hid (∀ W', Calls Tryd.prog 19 #[.int .u64 1] W' (RefPost W' 1)) := fun W' => Small_any (n := 1) (by omega)
    have CA : Hid (∀ W' B d B' d', Hid (RN W' W'.heap.size B d (z.natAbs - 1)) → Hid (RN W' W'.heap.size B' d' 1) → Calls Tryd.prog 91 #[.slice B (dq (z.natAbs - 1)) d, .slice B' (dq 1) d'] W' (RefPost W' z.natAbs)) := fun W' B d B' d' h h' => by
      have h3 := rAdd_any h.out h'.out (Nat.le_trans (dq_u64 (by omega)) (by omega)) (Nat.le_trans (dq_u64 (by omega)) (by omega))
      rwa [show z.natAbs - 1 + 1 = z.natAbs by omega] at h3
    have HZ : Hid (decide (z < 0) = true) := decide_eq_true hn
    clear e
    go_enter Tryd.func34, Tryd.ntmps34
    go_wp2_with (first | (go_at_call 19; (with_reducible refine (CS1.out _).mono ?_); rintro e w1 ⟨B, d, rfl, hn1, hbk⟩; have HR := hide ((zc_new _ _ _ _ _ _).up hbk); have HW : Hid (Below W.heap.size W w1) := (bz1 hbk).2.2.2) | (go_at_call 19; (with_reducible refine (CS2.out _).mono ?_); rintro e w2 ⟨B2, d2, rfl, hn2, hbk2⟩; replace HR := hide (HR.out.up hbk2); replace HW := chain HW hbk2.out; replace hn1 := hide ((hn1.out.below hbk2.out).more hbk2.out.size)) | (go_at_call 91; (with_reducible refine (CA.out _ _ _ _ _ hn1 hn2).mono ?_); rintro e w3 ⟨B3, d3, rfl, hn3, hbk3⟩; replace HR := hide (HR.out.up hbk3); replace HW := chain HW hbk3.out; have r0 := HR.out.c0; have r1 := HR.out.c1; have f0 := HR.out.f0; have f1 := HR.out.f1) | fail)
    refine bodyPost_ret (v := .agg #[.bool true, .slice B3 (dq z.natAbs) d3]) (by simp [results, Tryd.results34, go_sem, r0, r1]) rfl ?_
    exact ⟨B3, d3, by rw [HZ.out], rn_z2 hn3 r0 r1, (HW.out.setCell (by simp) _).setCell (by simp) _⟩
  · have e : IntKind.u64.wrap z = ((z.natAbs : Nat) : Int) := by rw [IntKind.wrap_u64]; omega
    have CS1 : Hid (∀ W', Calls Tryd.prog 19 #[.int .u64 (IntKind.u64.wrap z)] W' (RefPost W' z.natAbs)) := fun W' => by rw [e]; exact Small_any (by omega)
    have CS2 : Hid (∀ W', Calls Tryd.prog 19 #[.int .u64 z] W' (RefPost W' z.natAbs)) := fun W' => by rw [show z = ((z.natAbs : Nat) : Int) by omega]; exact Small_any (by omega)
    have HZ : Hid (decide (z < 0) = false) := decide_eq_false hn
    have hn' : 0 ≤ z := by omega
    clear e
    go_enter Tryd.func34, Tryd.ntmps34
    go_wp2_with (first | (go_at_call 19; (with_reducible refine (CS1.out _).mono ?_); rintro e w3 ⟨B3, d3, rfl, hn3, hbk⟩; have HR := hide ((zc_new _ _ _ _ _ _).up hbk); have HW : Hid (Below W.heap.size W w3) := (bz1 hbk).2.2.2; have r0 := HR.out.c0; have r1 := HR.out.c1; have f0 := HR.out.f0; have f1 := HR.out.f1) | (go_at_call 19; (with_reducible refine (CS2.out _).mono ?_); rintro e w3 ⟨B3, d3, rfl, hn3, hbk⟩; have HR := hide ((zc_new _ _ _ _ _ _).up hbk); have HW : Hid (Below W.heap.size W w3) := (bz1 hbk).2.2.2; have r0 := HR.out.c0; have r1 := HR.out.c1; have f0 := HR.out.f0; have f1 := HR.out.f1) | fail)
    refine bodyPost_ret (v := .agg #[.bool false, .slice B3 (dq z.natAbs) d3]) (by simp [results, Tryd.results34, go_sem, r0, r1]) rfl ?_
    exact ⟨B3, d3, by rw [HZ.out], rn_z2 hn3 r0 r1, (HW.out.setCell (by simp) _).setCell (by simp) _⟩
end
end Go.Proofs.YteieelgdiccppaaDoor
end
