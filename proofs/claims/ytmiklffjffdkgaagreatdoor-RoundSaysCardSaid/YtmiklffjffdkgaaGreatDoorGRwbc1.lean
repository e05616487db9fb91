/- Several texts in one, each with its own sentence and conditions. -/
import Derived.Test.YtmiklffjffdkgaaGreatDoorGRwbc0
import Derived.Maps.AppendAt
import Derived.Deep.RegionHeld3
section
/- The document's own numbers: Sub. Conditions: at most 100000 fours of digits; a is at least b. -/
open Go.RowKit
set_option maxRecDepth 100000
namespace Go.Proofs.YtmiklffjffdkgaaGreatDoor
theorem rsub_end {V m n k cr : Nat} (h : V + n = m + D4 ^ k * cr) (hV : V < D4 ^ k) (hnm : n ≤ m) (hc : cr ≤ 1) : V = m - n := by
  rcases Nat.eq_zero_or_pos cr with h0 | h0
  · rw [h0, Nat.mul_zero] at h; omega
  · obtain rfl : cr = 1 := by omega
    rw [Nat.mul_one] at h; omega
set_option maxHeartbeats 2000000 in
theorem rSub_any {A A' : Option Addr} {m n c c' : Nat} {w : World} (h : RN w w.heap.size A c m) (h' : RN w w.heap.size A' c' n) (hl : dq m ≤ 100000) (hnm : n ≤ m) :
    Calls Tryz.prog 80 #[.slice A (dq m) c, .slice A' (dq n) c'] w (RefPost w (m - n)) := by
  have HX := hide h
  have HY := hide h'
  have HNM := hide hnm
  have HLN : Hid (dq n ≤ dq m) := digs_len_mono (by decide) hnm
  obtain ⟨i0, hi0, hz0, hz1, hz2⟩ := info_parts Tryz.infoInt
  have I0 := hide hi0
  have Z0 := hide hz0
  have Z1 := hide hz1
  have Z2 := hide hz2
  clear hi0 hz0 hz1 hz2 h h' hnm
  go_enter Tryz.func80, Tryz.ntmps80
  go_wp2
  go_loopw [5, 6, 7] (fun dv cv iv wr => ∃ (i cr : Nat) (dd : List Nat), i ≤ dq m ∧ cr ≤ 1 ∧ cv = .int .i64 (cr : Int) ∧ iv = .int .i64 (i : Int) ∧ Hid (dd.length = i) ∧ Hid (Good4 dd) ∧
      Hid (val D4 dd + val D4 ((digs D4 n).take i) = val D4 ((digs D4 m).take i) + D4 ^ i * cr) ∧ Hid (wr.ownsRow w.heap.size 3 1 dv dd.length (dd.map I64)) ∧ Hid (Below w.heap.size w wr))
    (fun _ _ iv _ => dq m - (intOf iv).toNat)
  case atStart => exact ⟨0, 0, [], Nat.zero_le _, by omega, rfl, rfl, rfl, by intro x hx; simp at hx, by simp [Hid, val], World.ownsRow_nil _ _ _ _, Below.refl _ _⟩
  case round =>
    obtain ⟨i, cr, dd, hi, hcr, rfl, rfl, hdl, hdg, hval, hown, hbel⟩ := hrel
    by_cases hlt : i < dq m
    · obtain ⟨x, hx⟩ : ∃ x, x = (digs D4 m)[i]?.getD 0 := ⟨_, rfl⟩
      obtain ⟨y, hy⟩ : ∃ y, y = (digs D4 n)[i]?.getD 0 := ⟨_, rfl⟩
      have hx9 : x ≤ 9999 := by rw [hx]; exact getD_lt (good4_digs m) i
      have hy9 : y ≤ 9999 := by rw [hy]; exact getD_lt (good4_digs n) i
      have CX := hide (at_any (i := i) (c := c) (show dq m = (digs D4 m).length from rfl) (HX.out.below hbel.out).2)
      have CY := hide (at_any (i := i) (c := c') (show dq n = (digs D4 n).length from rfl) (HY.out.below hbel.out).2)
      have RX := hide (val_take_getD D4 (digs D4 m) i)
      have RY := hide (val_take_getD D4 (digs D4 n) i)
      rw [← hx] at CX RX
      rw [← hy] at CY RY
      have hdl2 : dd.length ≤ 300000 := by rw [hdl.out]; omega
      have H63 : Hid (dd.length + 1 ≤ maxLen) := by simp only [maxLen, Hid]; omega
      have HB : Hid (∀ u : Value, w.heap.size ≤ (wr.alloc (.cells #[u] 3)).heap.size) := fun u => by have := hbel.out.size; simp; omega
      have FIN : Hid (∀ (d cr' : Nat) (v2 : Value) (w3 : World), d + (cr + y) = x + D4 * cr' → d ≤ 9999 → w3.ownsRow w.heap.size 3 1 v2 (dd.length + 1) (dd.map I64 ++ [.int .i64 (d : Int)]) → Below w.heap.size w w3 →
          ∃ de : List Nat, Hid (de.length = i + 1) ∧ Hid (Good4 de) ∧ Hid (val D4 de + val D4 ((digs D4 n).take (i + 1)) = val D4 ((digs D4 m).take (i + 1)) + D4 ^ (i + 1) * cr') ∧ Hid (w3.ownsRow w.heap.size 3 1 v2 de.length (de.map I64)) ∧ Hid (Below w.heap.size w w3)) := by
        intro d cr' v2 w3 hd hd9 ho hb
        refine ⟨dd ++ [d], by unfold Hid; rw [List.length_append, hdl.out]; rfl, ?_, ?_, ?_, hb⟩
        · intro z hz
          rcases List.mem_append.1 hz with hz | hz
          · exact hdg.out z hz
          · simp at hz; subst hz; rw [D4_eq]; omega
        · unfold Hid
          rw [val_snoc, hdl.out, Nat.pow_succ, RX.out, RY.out]
          exact sub_math hval.out rfl hd
        · unfold Hid
          rw [List.length_append, List.map_append]
          exact ho
      clear hx hy
      by_cases hneg : x < y + cr
      · obtain ⟨d, hd⟩ : ∃ d, d + (y + cr) = x + 10000 := ⟨x + 10000 - (y + cr), by omega⟩
        have e1 : (x : Int) - (y : Int) - (cr : Int) + 10000 = (d : Int) := by omega
        have hneg2 : (x : Int) - (y : Int) - (cr : Int) < 0 := by omega
        have hneg3 : (x : Int) - (y : Int) < (cr : Int) := by omega
        have HD : Hid (d + (cr + y) = x + D4 * 1 ∧ d ≤ 9999) := by unfold Hid; rw [D4_eq]; omega
        clear hd
        go_wp2_with (first | (go_at_call 86; first | ((with_reducible refine CX.out.mono ?_); rintro e w' ⟨rfl, rfl⟩) | ((with_reducible refine CY.out.mono ?_); rintro e w' ⟨rfl, rfl⟩)) | (at_builtin; go_must (refine wpList_append_own _ rfl (.tmp 28) (.tmp 30) 34 rfl w.heap.size 3 i0 (.int .i64 0) 1 8 Tryz.underlying34 I0.out Z0.out Z1.out Z2.out rfl (by decide) _ _ _ rfl (hown.out.alloc _) ⟨wr.heap.size, 0, none⟩ 1 1 [.int .i64 (d : Int)] rfl rfl (cell_one_new _ _ _) (by intro u hu; simp at hu; subst hu; rfl) H63.out (by omega) (HB.out _) ?_; intro v2 w3 hown' hgrow hnil)))
        go_roundw
        case rel =>
          obtain ⟨de, g1, g2, g3, g4, g5⟩ := FIN.out d 1 v2 w3 HD.out.1 HD.out.2 hown' (app_below hown.out hbel.out (Nat.le_refl _) hgrow)
          exact ⟨i + 1, 1, de, by omega, by omega, rfl, by go_num, g1, g2, g3, g4, g5⟩
        case measure => simp [intOf]; omega
      · obtain ⟨d, hd⟩ : ∃ d, d + (y + cr) = x := ⟨x - (y + cr), by omega⟩
        have e1 : (x : Int) - (y : Int) - (cr : Int) = (d : Int) := by omega
        have HD : Hid (d + (cr + y) = x + D4 * 0 ∧ d ≤ 9999) := by unfold Hid; rw [D4_eq]; omega
        have hd0 : ¬ (d : Int) < 0 := by omega
        clear hd
        go_wp2_with (first | (go_at_call 86; first | ((with_reducible refine CX.out.mono ?_); rintro e w' ⟨rfl, rfl⟩) | ((with_reducible refine CY.out.mono ?_); rintro e w' ⟨rfl, rfl⟩)) | (at_builtin; go_must (refine wpList_append_own _ rfl (.tmp 28) (.tmp 30) 34 rfl w.heap.size 3 i0 (.int .i64 0) 1 8 Tryz.underlying34 I0.out Z0.out Z1.out Z2.out rfl (by decide) _ _ _ rfl (hown.out.alloc _) ⟨wr.heap.size, 0, none⟩ 1 1 [.int .i64 (d : Int)] rfl rfl (cell_one_new _ _ _) (by intro u hu; simp at hu; subst hu; rfl) H63.out (by omega) (HB.out _) ?_; intro v2 w3 hown' hgrow hnil)))
        go_roundw
        case rel =>
          obtain ⟨de, g1, g2, g3, g4, g5⟩ := FIN.out d 0 v2 w3 HD.out.1 HD.out.2 hown' (app_below hown.out hbel.out (Nat.le_refl _) hgrow)
          exact ⟨i + 1, 0, de, by omega, by omega, rfl, by go_num, g1, g2, g3, g4, g5⟩
        case measure => simp [intOf]; omega
    · obtain rfl : i = dq m := by omega
      have HV : Hid (val D4 dd = m - n) := by
        have h1 := hval.out
        rw [List.take_of_length_le (show (digs D4 m).length ≤ dq m from Nat.le_refl _), List.take_of_length_le (show (digs D4 n).length ≤ dq m from HLN.out), val_digs4, val_digs4] at h1
        have h2 := val_lt dd hdg.out
        rw [hdl.out] at h2
        exact rsub_end h1 h2 HNM.out hcr
      obtain ⟨A2, c2, he, hc, hr⟩ := row_rd hown.out
      cases he
      have HR := hide hr
      have hdl2 : dd.length ≤ 300000 := by rw [hdl.out]; omega
      go_wp2_with (first | (go_at_call 83; go_must (refine (rtrim_post rfl HV.out HR.out hdg.out (by omega) hc).mono ?_); rintro e w2 ⟨rfl, rfl⟩))
      go_ret
      exact ⟨A2, c2, rfl, rn_of rfl HV.out HR.out hdg.out hc, hbel⟩
end Go.Proofs.YtmiklffjffdkgaaGreatDoor
end

section
/- Words for the document's own division: the reckoning, and append of any slice that reads as a list. No conditions. -/
open Go.RowKit
set_option maxRecDepth 100000
namespace Go.Proofs.YtmiklffjffdkgaaGreatDoor
section
variable {P : Program} {w : World}
/-- Of a nil slice append adds nothing. -/
theorem app_nil (base : Nat) (t ty e : TypeId) (i : TypeInfo) (size : Nat) (ht : P.underlying t = some (.slice e)) (hi : P.info? e = some i)
    (v : Value) (n : Nat) (xs : List Value) (hown : w.ownsRow base e size v n xs) (c : Nat) : (Builtin.append_ #[t, t] ty #[v, .slice none 0 c]).run P w = .ok v w := by
  rcases hown.2 with ⟨rfl, rfl⟩ | ⟨g, cap, cur, rfl, _, _, hnc, _⟩
  · simp [Builtin.append_, run_underlying ht, sizeOf, typeInfo, hi, Builtin.lenOf, Builtin.firstCells]
  · simp [Builtin.append_, run_underlying ht, sizeOf, typeInfo, hi, Builtin.lenOf, Builtin.firstCells, hnc, storeCells]
theorem app_run {f : Nat → Value} (hf : ∀ x, (f x).oneCell' = true) (base : Nat) (t ty e : TypeId) (i : TypeInfo) (z : Value) (bytes : Nat) (ht : P.underlying t = some (.slice e)) (hi : P.info? e = some i) (hz : i.zero = some z)
    (hsize : i.size = 1) (hby : i.bytes = bytes) (hzs : z.cells.size = 1) {v : Value} {n : Nat} {xs : List Value} (hown : w.ownsRow base e 1 v n xs)
    {B : Nat} {A : Option Addr} {m c : Nat} {ws : List Nat} (hm : m = ws.length) (hr : Rd f w B A ws) (h63 : n + m ≤ maxLen) (hbytes : (n + m) * bytes ≤ 140737488355328) (hbase : base ≤ w.heap.size) :
    ∃ v' w', (Builtin.append_ #[t, t] ty #[v, .slice A m c]).run P w = .ok v' w' ∧ w'.ownsRow base e 1 v' (n + m) (xs ++ ws.map f) ∧ w.grownBy w' v.ownBlock ∧ (v'.ownBlock = v.ownBlock ∨ v'.ownBlock = some w.heap.size) := by
  subst hm
  by_cases h0 : ws = []
  · subst h0
    cases A with
    | none => exact ⟨v, w, app_nil base t ty e i 1 ht hi v n xs hown c, by simpa using hown, World.grownBy.refl w _, .inl rfl⟩
    | some ad =>
      obtain ⟨v', w', h1, h2, h3, _, h5⟩ := run_append_own_at (P := P) w base t ty e i z 1 bytes ht hi hz hsize hby hzs (by decide) v n xs hown ad 0 c [] (by simp) (by simp) (by simp) h63 hbytes hbase
      exact ⟨v', w', h1, by simpa using h2, h3, h5⟩
  · obtain ⟨ad, rfl, _, hc⟩ := hr (List.length_pos_iff.2 h0)
    obtain ⟨v', w', h1, h2, h3, _, h5⟩ := run_append_own_at (P := P) w base t ty e i z 1 bytes ht hi hz hsize hby hzs (by decide) v n xs hown ad ws.length c (ws.map f) (by simp) (fun j u hu => by
      rw [List.getElem?_map] at hu
      cases hj : ws[j]? with
      | none => rw [hj] at hu; cases hu
      | some x => rw [hj] at hu; injection hu with hu; rw [← hu]; exact hc j x hj) (by intro u hu; obtain ⟨x, _, rfl⟩ := List.mem_map.1 hu; exact hf x) h63 hbytes hbase
    exact ⟨v', w', h1, h2, h3, h5⟩
theorem wpList_app {f : Nat → Value} (hf : ∀ x, (f x).oneCell' = true) {ops : Array Oper} {rest : List Oper} {o : Oper} {a : Act} {Q : Exit → Act → World → Prop} (hgd : o.guard = none) (s x : Operand) (t : TypeId)
    (ho : o.op = .call { callee := .builtin .append, args := #[s, x], argTypes := #[t, t] }) (base : Nat) (e : TypeId) (i : TypeInfo) (z : Value) (bytes : Nat) (ht : P.underlying t = some (.slice e)) (hi : P.info? e = some i) (hz : i.zero = some z)
    (hsize : i.size = 1) (hby : i.bytes = bytes) (hzs : z.cells.size = 1) {v : Value} {n : Nat} {xs : List Value} (hs : a.eval s = v) (hown : w.ownsRow base e 1 v n xs)
    {B : Nat} {A : Option Addr} {m c : Nat} {ws : List Nat} (hx : a.eval x = .slice A m c) (hm : m = ws.length) (hr : Rd f w B A ws) (h63 : n + m ≤ maxLen) (hbytes : (n + m) * bytes ≤ 140737488355328) (hbase : base ≤ w.heap.size)
    (h : ∀ v' w', w'.ownsRow base e 1 v' (n + m) (xs ++ ws.map f) → w.grownBy w' v.ownBlock → (v'.ownBlock = v.ownBlock ∨ v'.ownBlock = some w.heap.size) → wpList P ops Q rest (a.put o.dst v') w') : wpList P ops Q (o :: rest) a w := by
  refine wpList_plain hgd fun K hK => ?_
  obtain ⟨v', w', h1, h2, h3, h4⟩ := app_run (P := P) hf base t o.type e i z bytes ht hi hz hsize hby hzs hown hm hr h63 hbytes hbase
  unfold Oper.wp execOp
  simp only [ho, resolve, invoke, builtin, Sem.run_bind, Sem.run_pure, Result.andThen_ok, List.map_toArray, List.map_cons, List.map_nil, hs, hx]
  rw [h1]
  exact hK _ _ (h v' w' h2 h3 h4)
end
/-- One digit of the quotient. -/
theorem rdiv_digit {n r x : Nat} (hr : r < n) (hx : x ≤ 9999) : (x + D4 * r) / n ≤ 9999 ∧ (x + D4 * r) - n * ((x + D4 * r) / n) < n ∧ n * ((x + D4 * r) / n) ≤ x + D4 * r := by
  have h0 : 0 < n := by omega
  have h1 : (x + D4 * r) / n < 10000 := by
    rw [Nat.div_lt_iff_lt_mul h0]
    have : D4 * (r + 1) ≤ 10000 * n := Nat.mul_le_mul (by decide) hr
    rw [Nat.mul_add, D4_eq] at this
    rw [D4_eq]; omega
  have h2 := Nat.div_add_mod (x + D4 * r) n
  have h3 := Nat.mod_lt (x + D4 * r) h0
  omega
theorem rdiv_step {n H r x M t r' : Nat} (hM : M = n * H + r) (ht : n * t + r' = x + D4 * r) : x + D4 * M = n * (t + D4 * H) + r' := by
  have e1 : n * (t + D4 * H) = n * t + D4 * (n * H) := by rw [Nat.mul_add, Nat.mul_left_comm]
  rw [hM, e1, Nat.mul_add]; omega
theorem rdiv_end {m n Q r : Nat} (hM : m = n * Q + r) (hr : r < n) : m / n = Q ∧ m % n = r := by
  exact (Nat.div_mod_unique (a := m) (b := n) (by omega)).2 ⟨by rw [hM, Nat.add_comm], hr⟩
theorem zeros_set {hi : List Nat} {i v : Nat} : (List.replicate (i + 1) 0 ++ hi).set i v = List.replicate i 0 ++ (v :: hi) := by
  rw [List.replicate_succ']
  rw [List.append_assoc, List.set_append_right _ _ (by simp)]
  simp
theorem val_drop_lt {m top : Nat} (h : top ≤ dq m) : val D4 ((digs D4 m).drop top) < D4 ^ (dq m - top) := by
  have := val_lt ((digs D4 m).drop top) (fun x hx => good4_digs m x (List.mem_of_mem_drop hx))
  rwa [List.length_drop] at this
/-- The bisection's step. -/
theorem bis_le {n s t : Nat} (h0 : 0 < n) : n * s ≤ t ↔ s ≤ t / n := by rw [Nat.mul_comm]; exact (Nat.le_div_iff_mul_le h0).symm
end Go.Proofs.YtmiklffjffdkgaaGreatDoor
end

section
/- The document's own numbers: Mul. Conditions: at most 100000 fours of digits. -/
open Go.RowKit
set_option maxRecDepth 100000
namespace Go.Proofs.YtmiklffjffdkgaaGreatDoor
theorem made_i64 (w : World) (n : Nat) : Blk I64 3 (w.alloc (.cells (madeCells #[.int .i64 0] n) 3)) w.heap.size (List.replicate n 0) := made_zeros w _ _ n
theorem make_ints (n : Nat) (hn : n ≤ 1000000) (w : World) : (Instr.makeSlice 34 (.int .i64 (n : Int)) (.int .i64 (n : Int))).run Tryz.prog w =
    .ok (.slice (some ⟨w.heap.size, 0, none⟩) n n) (w.alloc (.cells (madeCells #[.int .i64 0] n) 3)) := by
  obtain ⟨i0, hi0, hz0, hz1, hz2⟩ := info_parts Tryz.infoInt
  have h := run_make (P := Tryz.prog) w 34 3 i0 (.int .i64 0) Tryz.underlying34 hi0 hz0 .i64 .i64 n n (by omega) (by omega) (by rw [hz2]; omega) (by omega)
  simpa [hz1, Value.cells] using h
theorem wpList_ints {w : World} {ops : Array Oper} {rest : List Oper} {o : Oper} {a : Act} {Q : Exit → Act → World → Prop} (hgd : o.guard = none) (l c : Operand) (hop : o.op = Op.makeSlice 34 l c)
    (n : Nat) (N : Int) (hl : a.eval l = .int .i64 N) (hc : a.eval c = .int .i64 N) (hN : N = (n : Int)) (hn : n ≤ 1000000)
    (h : ∀ g w', Hid (g = w.heap.size) → Hid (Blk I64 3 w' g (List.replicate n 0)) → Below w.heap.size w w' → wpList Tryz.prog ops Q rest (a.put o.dst (.slice (some ⟨g, 0, none⟩) n n)) w') : wpList Tryz.prog ops Q (o :: rest) a w := by
  subst hN
  exact wpList_made hgd l c _ hop _ _ _ hl hc (make_ints n hn w) (h _ _ rfl (made_i64 w n) ((Below.refl _ _).alloc (Nat.le_refl _) _))
theorem rmul_end {R seg : List Nat} {i k x m' X : Nat} (hi : i + k ≤ R.length) (hs : seg.length = k) (hR : val D4 R = X * m') (hv : val D4 seg = val D4 ((R.drop i).take k) + x * m') :
    val D4 (R.take i ++ (seg ++ R.drop (i + k))) = (X + D4 ^ i * x) * m' := by
  rw [val_append, val_append, hv, hs, List.length_take, Nat.min_eq_left (by omega)]
  have e : val D4 R = val D4 (R.take i) + D4 ^ i * (val D4 ((R.drop i).take k) + D4 ^ k * val D4 (R.drop (i + k))) := by
    have h1 := val_append D4 (R.take i) (R.drop i)
    rw [List.take_append_drop, List.length_take, Nat.min_eq_left (by omega)] at h1
    have h2 := val_append D4 ((R.drop i).take k) ((R.drop i).drop k)
    rw [List.take_append_drop, List.length_take, List.length_drop, Nat.min_eq_left (by omega), List.drop_drop] at h2
    rw [h1, h2]
  rw [Nat.add_mul, ← hR, e, Nat.mul_assoc]
  generalize D4 ^ i = P
  simp only [Nat.mul_add]; omega
theorem good4_app {l m : List Nat} (h : Good4 l) (hm : Good4 m) : Good4 (l ++ m) := by
  intro x hx
  rcases List.mem_append.1 hx with hx | hx
  · exact h x hx
  · exact hm x hx
theorem rmul_math {P V c A x Y s y t q r : Nat} (h : V + P * c = A + x * Y) (ht : t = s + x * y + c) (hq : r + D4 * q = t) : V + P * r + P * D4 * q = A + P * s + x * (Y + P * y) := by
  have e1 : P * r + P * D4 * q = P * t := by rw [← hq, Nat.mul_add, Nat.mul_assoc]
  have e2 : P * t = P * s + P * (x * y) + P * c := by rw [ht, Nat.mul_add, Nat.mul_add]
  have e3 : x * (P * y) = P * (x * y) := by rw [Nat.mul_left_comm]
  rw [Nat.mul_add x, e3]; omega
set_option maxHeartbeats 2000000 in
theorem rMul_any {A A' : Option Addr} {m n c c' : Nat} {w : World} (h : RN w w.heap.size A c m) (h' : RN w w.heap.size A' c' n) (hl : dq m ≤ 100000) (hl' : dq n ≤ 100000) :
    Calls Tryz.prog 49 #[.slice A (dq m) c, .slice A' (dq n) c'] w (RefPost w (m * n)) := by
  have HX := hide h
  have HY := hide h'
  clear h h'
  go_enter Tryz.func49, Tryz.ntmps49
  go_wp2_with (first | (at_make; go_must (refine wpList_ints rfl _ _ rfl (dq m + dq n + 1) _ rfl rfl (by omega) (by omega) ?_; intro g w1 hg hb1 hbel)))
  have hgw : w.heap.size ≤ g := by rw [hg.out]; exact Nat.le_refl _
  have HW1 := hide hbel
  clear hg hbel
  go_loopw [6] (fun iv wr => ∃ (i : Nat) (R : List Nat), i ≤ dq m ∧ iv = .int .i64 (i : Int) ∧ Hid (R.length = dq m + dq n + 1) ∧ Hid (Good4 R) ∧ Hid (val D4 R = val D4 ((digs D4 m).take i) * n) ∧ Hid (∀ j : Nat, i + dq n ≤ j → R[j]?.getD 0 = 0) ∧ Hid (Blk I64 3 wr g R) ∧ Hid (w1.grownBy wr (some g)))
    (fun iv _ => dq m - (intOf iv).toNat)
  case atStart => exact ⟨0, List.replicate (dq m + dq n + 1) 0, Nat.zero_le _, rfl, by simp [Hid], by intro x hx; rw [(List.mem_replicate.1 hx).2]; decide, by simp [Hid, val, val_zeros], by intro j _; rw [List.getElem?_replicate]; split <;> rfl, hb1, World.grownBy.refl _ _⟩
  case round =>
    obtain ⟨i, R, hi, rfl, hRl, hRg, hRv, hRz, hblk, hgr⟩ := hrel
    by_cases hlt : i < dq m
    · have hix : i < (digs D4 m).length := hlt
      obtain ⟨x, hxe⟩ : ∃ x, x = (digs D4 m)[i] := ⟨_, rfl⟩
      have hxL : (digs D4 m)[i]? = some x := by rw [hxe]; exact List.getElem?_eq_getElem hix
      have RX := hide (val_take_succ D4 hxL)
      have hx9 : x ≤ 9999 := by have := good4_digs m _ (List.getElem_mem hix); rw [← hxe, D4_eq] at this; omega
      have HXL := hide hxL
      clear hxe hix hxL
      go_wp2_with fail
      go_loopw [7, 8] (fun cv kv wr => ∃ (k cr : Nat) (seg : List Nat), k ≤ dq n + 1 ∧ cr ≤ 9999 ∧ Hid (k = dq n + 1 → cr = 0) ∧ cv = .int .i64 (cr : Int) ∧ kv = .int .i64 (k : Int) ∧ Hid (seg.length = k) ∧ Hid (Good4 seg) ∧ Hid (val D4 seg + D4 ^ k * cr = val D4 ((R.drop i).take k) + x * val D4 ((digs D4 n).take k)) ∧
          Hid (Blk I64 3 wr g (R.take i ++ (seg ++ R.drop (i + k)))) ∧ Hid (w1.grownBy wr (some g)))
        (fun _ kv _ => dq n + 2 - (intOf kv).toNat)
      case atStart => exact ⟨0, 0, [], by omega, by omega, fun _ => rfl, rfl, rfl, rfl, by intro x hx; simp at hx, by simp [Hid, val], by simpa [Hid] using hblk.out, hgr⟩
      case round =>
        obtain ⟨k, cr, seg, hk, hcr, hc0, rfl, rfl, hsl, hsg, hval, hblk2, hgr2⟩ := hrel
        by_cases hgo : k < dq n ∨ 0 < cr
        · have hkn : k ≤ dq n := by
            rcases hgo with h | h
            · omega
            · rcases Nat.lt_or_ge (dq n) k with h1 | h1
              · have := hc0.out (by omega); omega
              · exact h1
          have hik : i + k < R.length := by rw [hRl.out]; omega
          obtain ⟨y, hy⟩ : ∃ y, y = (digs D4 n)[k]?.getD 0 := ⟨_, rfl⟩
          have hy9 : y ≤ 9999 := by rw [hy]; exact getD_lt (good4_digs n) k
          obtain ⟨s, hs⟩ : ∃ s, s = R[i + k] := ⟨_, rfl⟩
          have hsL : R[i + k]? = some s := by rw [hs]; exact List.getElem?_eq_getElem hik
          have hs9 : s ≤ 9999 := by have := hRg.out _ (List.getElem_mem hik); rw [← hs, D4_eq] at this; omega
          have CY := hide (fun W : World => fun hb : Below w.heap.size w W => at_any (i := k) (c := c') (show dq n = (digs D4 n).length from rfl) (HY.out.below hb).2)
          have RY := hide (val_take_getD D4 (digs D4 n) k)
          rw [← hy] at RY
          simp only [← hy] at CY
          have RR := hide (val_take_succ D4 (L := R.drop i) (i := k) (x := s) (by rw [List.getElem?_drop]; exact hsL))
          obtain ⟨ad, e, hab, hcx⟩ := (((HX.out.below HW1.out).2.grown hgr2.out hgw).at_ (show i < (digs D4 m).length from hlt))
          subst e
          replace hcx : wr.cell? (ad.add i) = some (.int .i64 (x : Int)) := by
            have e2 := HXL.out
            rw [List.getElem?_eq_getElem (show i < (digs D4 m).length from hlt)] at e2
            injection e2 with e2
            rw [e2] at hcx; exact hcx
          have HBW := hide (HW1.out.trans (grown_below hgr2.out hgw hb1.out.lt))
          have hcs : wr.cell? ⟨g, i + k, none⟩ = some (.int .i64 (s : Int)) := hblk2.out.cell (by rw [get_mid (by rw [List.length_take]; omega) hsl.out, hsL])
          have hfz := hblk2.out.frozen (i + k)
          have hp0 : 0 ≤ (x : Int) * (y : Int) := Int.mul_nonneg (by omega) (by omega)
          have hpn : x * y ≤ 9999 * 9999 := Nat.mul_le_mul hx9 hy9
          have hp1 : (x : Int) * (y : Int) ≤ 99980001 := by have : ((x * y : Nat) : Int) ≤ 99980001 := by omega
                                                            rwa [Int.natCast_mul] at this
          obtain ⟨t, ht⟩ : ∃ t, t = s + x * y + cr := ⟨_, rfl⟩
          have HTE : Hid ((s : Int) + (x : Int) * (y : Int) + (cr : Int) = (t : Int)) := by unfold Hid; rw [ht, Int.natCast_add, Int.natCast_add, Int.natCast_mul]
          have htb : t ≤ 99999999 := by omega
          have E1 : Hid (IntKind.i64.wrap ((i : Int) + (k : Int)) = (i : Int) + (k : Int)) := IntWalk.i64_in _ (by omega)
          have E2 : Hid (0 ≤ (i : Int) + (k : Int)) := by unfold Hid; omega
          have E3 : Hid (((i : Int) + (k : Int)).toNat = i + k) := by unfold Hid; omega
          have E4 : Hid (IntKind.i64.wrap ((x : Int) * (y : Int)) = (x : Int) * (y : Int)) := IntWalk.i64_in _ (by omega)
          have E5 : Hid (IntKind.i64.wrap ((s : Int) + (x : Int) * (y : Int)) = (s : Int) + (x : Int) * (y : Int)) := IntWalk.i64_in _ (by omega)
          have E6 : Hid (IntKind.i64.wrap ((s : Int) + (x : Int) * (y : Int) + (cr : Int)) = (t : Int)) := by unfold Hid; rw [HTE.out]; exact IntWalk.i64_in _ (by omega)
          have htl : Hid (t / D4 ≤ 9999) := by unfold Hid; rw [D4_eq]; omega
          have htz : Hid (dq n ≤ k → t / D4 = 0) := fun hkk => by
            have h1 : y = 0 := by rw [hy, List.getElem?_eq_none hkk]; rfl
            have h2 : s = 0 := by have := hRz.out (i + k) (by omega); rw [hsL] at this; exact this
            rw [ht, h1, h2, D4_eq]; omega
          have RM := hide (rmul_math hval.out ht (lohi4 t))
          have RS := hide (set_mid (seg := seg) (v := t % D4) (show (R.take i).length = i by rw [List.length_take]; omega) hsl.out hik)
          clear hy hs hsL hpn ht hik
          have hways : k < dq n ∨ (¬ k < dq n ∧ 0 < cr) := by omega
          clear hgo
          rcases hways with hw1 | ⟨hw1, hw2⟩
          all_goals
            go_wp2_with fail
            have e1 := E1.out
            have e2 := E2.out
            have e3 := E3.out
            have e4 := E4.out
            have e5 := E5.out
            have e6 := E6.out
            have e7 : (i : Int) + (k : Int) < (dq m : Int) + (dq n : Int) + 1 := by omega
            have e8 : (i : Int) + (k : Int) < ((dq m + dq n + 1 : Nat) : Int) := by omega
            have e9 : (i : Int) < (dq m : Int) := by omega
            go_quiet ((go_at_call 86; exact quiet_left (CY.out _ (below_drewN HBW.out _))))
            clear e1 e2 e3 e4 e5 e6 e7 e8 e9
            go_wp2
            go_roundw
            case rel =>
              refine ⟨k + 1, t / D4, seg ++ [t % D4], by omega, htl.out, fun h => htz.out (by omega), rfl, by go_num, by unfold Hid; simp [hsl.out], ?_, ?_, ?_, ?_⟩
              · exact good4_app hsg.out (by intro z hz; simp at hz; subst hz; exact Nat.mod_lt _ (by decide))
              · unfold Hid
                rw [val_snoc, hsl.out, Nat.pow_succ, RR.out, RY.out]
                exact RM.out
              · have h1 := hblk2.out.set_ (i + k) (t % D4)
                rw [RS.out] at h1
                exact h1
              · exact grown_set (grown_drewN hgr2.out _) _ _
            case measure => simp [intOf]; omega
        · have hw1 : ¬ k < dq n := by omega
          obtain rfl : cr = 0 := by omega
          have hik : i + k ≤ R.length := by rw [hRl.out]; omega
          have HVS : Hid (val D4 seg = val D4 ((R.drop i).take k) + x * n) := by
            have h1 := hval.out
            rw [List.take_of_length_le (show (digs D4 n).length ≤ k by unfold dq at hw1; omega), val_digs4, Nat.mul_zero] at h1
            exact h1
          have HE := hide (rmul_end hik hsl.out hRv.out HVS.out)
          have HLN : Hid ((R.take i ++ (seg ++ R.drop (i + k))).length = dq m + dq n + 1) := by
            unfold Hid; rw [List.length_append, List.length_append, List.length_take, List.length_drop, hsl.out, hRl.out]; rw [hRl.out] at hik; omega
          have HZ : Hid (∀ j : Nat, i + 1 + dq n ≤ j → (R.take i ++ (seg ++ R.drop (i + k)))[j]?.getD 0 = 0) := fun j hj => by
            rw [List.getElem?_append_right (by rw [List.length_take]; omega), List.getElem?_append_right (by rw [List.length_take, hsl.out]; omega), List.getElem?_drop, List.length_take, hsl.out]
            have := hRz.out j (by omega)
            rw [← this]; congr 2; omega
          clear hgo hik
          go_wp2
          go_roundw
          case rel =>
            refine ⟨i + 1, _, by omega, by go_num, HLN, ?_, ?_, HZ, hblk2, hgr2⟩
            · exact good4_app (fun z hz => hRg.out z (List.mem_of_mem_take hz)) (good4_app hsg.out (fun z hz => hRg.out z (List.mem_of_mem_drop hz)))
            · unfold Hid; rw [RX.out]; exact HE.out
          case measure => simp [intOf]; omega
    · obtain rfl : i = dq m := by omega
      have HV : Hid (val D4 R = m * n) := by unfold Hid; rw [hRv.out, List.take_of_length_le (show (digs D4 m).length ≤ dq m from Nat.le_refl _), val_digs4]
      have HRD := hide (hblk.out.rd0 hblk.out.lt)
      go_wp2_with (first | (go_at_call 83; go_must (refine (rtrim_post hRl.out.symm HV.out HRD.out hRg.out (by omega) (by omega)).mono ?_); rintro e w2 ⟨rfl, rfl⟩))
      go_ret
      exact ⟨_, _, rfl, rn_of hRl.out.symm HV.out HRD.out hRg.out (Nat.le_refl _), HW1.out.trans (grown_below hgr.out hgw hb1.out.lt)⟩
end Go.Proofs.YtmiklffjffdkgaaGreatDoor
end

section
/- The document's own numbers: Words. Conditions: at most 4000 words. -/
open Go.RowKit
set_option maxRecDepth 100000
namespace Go.Proofs.YtmiklffjffdkgaaGreatDoor
theorem dq_le {m k : Nat} (h : m < D4 ^ k) : dq m ≤ k := by
  rcases Nat.eq_zero_or_pos m with rfl | h0
  · unfold dq; rw [digs_zero]; simp
  · have h1 := pow_le_of_digs (b := D4) (by decide) h0
    have h2 : D4 ^ (dq m - 1) < D4 ^ k := Nat.lt_of_le_of_lt h1 h
    have h3 := (Nat.pow_lt_pow_iff_right (a := D4) (by decide)).1 h2
    omega
theorem dq_words {m k : Nat} (h : m < W32 ^ k) : dq m ≤ 3 * k := by
  refine dq_le (Nat.lt_of_lt_of_le h ?_)
  rw [Nat.pow_mul]
  exact Nat.pow_le_pow_left (by decide) k
theorem dq_zero : dq 0 = 0 := by unfold dq; rw [digs_zero]; rfl
theorem u64_of_word {x : Nat} (h : x ≤ 4294967295) : x < 18446744073709551616 := by omega
theorem keepS {wr W W' : World} {a : Addr} {v : Option Value} (hlt : a.block < wr.heap.size) (hb : Hid (Below W.heap.size W W')) (h : W.cell? a = v ∧ Below wr.heap.size wr W) : W'.cell? a = v ∧ Below wr.heap.size wr W' :=
  ⟨(hb.out.cell (Nat.lt_of_lt_of_le hlt h.2.size)).trans h.1, h.2.trans (hb.out.mono h.2.size)⟩
set_option maxHeartbeats 1000000 in
theorem Words_any {A : Option Addr} {ws : List Nat} {n c : Nat} {w : World} (hn : n = ws.length) (h : Rd U32 w w.heap.size A ws) (hg : Good32 ws) (hl : n ≤ 4000) :
    Calls Tryz.prog 18 #[.slice A n c] w (RefPost w (val W32 ws)) := by
  have HN := hide hn
  have HR := hide h
  have HG := hide hg
  have CS := hide (Small_any (n := 4294967296) (w := w) (by omega))
  clear hn h hg
  go_enter Tryz.func18, Tryz.ntmps18
  go_wp2_with (first | (go_at_call 41; go_must (refine CS.out.mono ?_); rintro e w1 ⟨Ab, cb, rfl, hrb, hbb⟩))
  go_loopw [3, 5] (fun av iv wr => ∃ (j c1 : Nat) (A1 : Option Addr), j ≤ n ∧ iv = .int .i64 ((j : Int) - 1) ∧ av = .slice A1 (dq (val W32 (ws.drop j))) c1 ∧ Hid (RN wr wr.heap.size A1 c1 (val W32 (ws.drop j))) ∧ Hid (RN wr wr.heap.size Ab cb 4294967296) ∧ Hid (Below w.heap.size w wr))
    (fun _ iv _ => (intOf iv + 1).toNat)
  case atStart =>
    have hd : ws.drop n = [] := List.drop_of_length_le (by rw [HN.out]; exact Nat.le_refl _)
    exact ⟨n, 0, none, Nat.le_refl _, rfl, by rw [hd]; show _ = Value.slice none (dq 0) 0; rw [dq_zero], by unfold Hid; rw [hd]; exact ⟨by show dq 0 ≤ 0; rw [dq_zero]; exact Nat.le_refl _, by show Rd I64 w1 w1.heap.size none (digs D4 0); rw [digs_zero]; exact Rd.nil⟩, hrb, hbb⟩
  case round =>
    obtain ⟨j, c1, A1, hj, rfl, rfl, hra, hrb2, hbel⟩ := hrel
    by_cases h0 : j = 0
    · subst h0
      go_wp2
      go_ret
      rw [List.drop_zero] at hra
      exact ⟨A1, c1, rfl, hra, hbel⟩
    · obtain ⟨i, rfl⟩ : ∃ i, j = i + 1 := ⟨j - 1, by omega⟩
      have hiw : i < ws.length := by rw [← HN.out]; omega
      obtain ⟨ad, rfl, hab, hcx⟩ := (HR.out.below hbel.out).at_ hiw
      obtain ⟨x, hx⟩ : ∃ x, x = ws[i] := ⟨_, rfl⟩
      rw [← hx] at hcx
      unfold U32 at hcx
      have hxl : x ≤ 4294967295 := word_le (by rw [hx]; exact HG.out _ (List.getElem_mem _))
      obtain ⟨v, hv⟩ : ∃ v, v = val W32 (ws.drop (i + 1)) := ⟨_, rfl⟩
      rw [← hv] at hra ⊢
      have HV : Hid (val W32 (ws.drop i) = v * 4294967296 + x) := by
        unfold Hid
        rw [List.drop_eq_getElem_cons hiw, ← hx, hv]
        show x + W32 * _ = _
        rw [W32_eq]; omega
      have hvl : v < W32 ^ n := by
        have h1 := val_lt (ws.drop (i + 1)) (good_drop HG.out (i + 1))
        rw [← hv] at h1
        refine Nat.lt_of_lt_of_le h1 (Nat.pow_le_pow_right (by decide) ?_)
        rw [List.length_drop]; have := HN.out; omega
      have hq1 : dq v ≤ 100000 := by have := dq_words hvl; omega
      have hq2 : dq 4294967296 ≤ 100000 := by have := dq_u64 (n := 4294967296) (by omega); omega
      have hq3 : dq (v * 4294967296) ≤ 100000 := by
        have h1 : v * 4294967296 < W32 ^ (n + 1) := by
          rw [Nat.pow_succ]; exact Nat.mul_lt_mul_of_pos_right hvl (by decide)
        have := dq_words h1; omega
      have hq4 : dq x ≤ 100000 := by have := dq_u64 (n := x) (by omega); omega
      have HQ := hide (And.intro hq1 (And.intro hq2 (And.intro hq3 hq4)))
      have CM := hide (fun (W : World) (hb : Below wr.heap.size wr W) => rMul_any ((hra.out.below hb).more hb.size) ((hrb2.out.below hb).more hb.size) hq1 hq2)
      have CX := hide (fun (W : World) => Small_any (w := W) (u64_of_word hxl))
      clear hvl hx hv hq1 hq2 hq3 hq4
      have hib : (i : Int) < (n : Int) := by omega
      have hi0 : (0 : Int) ≤ (i : Int) := by omega
      have hb0 := Below.refl wr.heap.size wr
      go_wp2_with fail
      have e1 : IntKind.u64.wrap (x : Int) = (x : Int) := u64_nat (by omega)
      have hablt : (ad.add i).block < wr.heap.size := by rw [block_add]; exact Nat.lt_of_lt_of_le hab hbel.out.size
      go_region_held3 (fun w' => w'.cell? (ad.add i) = some (.int .u32 (x : Int)) ∧ Below wr.heap.size wr w') (first | exact ⟨hcx, (Below.refl _ _).drew⟩ | exact keepS hablt hb2 (by assumption) | exact keepS hablt hb3 (by assumption) | exact keepS hablt hb5 (by assumption)) (first | (go_at_call 49; refine (CM.out _ (And.right (by assumption))).mono ?_; rintro e w' ⟨A2, c2, rfl, hr2, hb2⟩) | (go_at_call 41; (with_reducible refine (CX.out _).mono ?_); rintro e w' ⟨A3, c3, rfl, hr3, hb3⟩; have hr4 := hide ((hr2.out.below hb3.out).more hb3.out.size)) | (go_at_call 53; (with_reducible refine (rAdd_any hr4.out hr3.out HQ.out.2.2.1 HQ.out.2.2.2).mono ?_); rintro e w' ⟨A4, c4, rfl, hr5, hb5⟩))
      clear e1
      have hb6 : Below wr.heap.size wr w' := by
        refine Below.trans ?_ (hb5.out.mono ?_)
        · exact ((Below.refl wr.heap.size wr).drew.trans (hb2.out.mono (Nat.le_refl _))).trans (hb3.out.mono hb2.out.size)
        · exact Nat.le_trans hb2.out.size hb3.out.size
      have HB6 := hide hb6
      clear hb6 hb0
      go_wp2
      go_roundw
      case rel => exact ⟨i, c4, A4, by omega, rfl, by rw [HV.out], by unfold Hid; rw [HV.out]; exact hr5.out, (hrb2.out.below HB6.out).more HB6.out.size, hbel.out.trans (HB6.out.mono hbel.out.size)⟩
      case measure => simp [intOf]
end Go.Proofs.YtmiklffjffdkgaaGreatDoor
end

section
/- The document's own numbers: Div. Conditions: at most 100000 fours of digits, a divisor above 0. -/
open Go.RowKit
set_option maxRecDepth 100000
namespace Go.Proofs.YtmiklffjffdkgaaGreatDoor
def RDivR (w : World) (q r : Nat) (e : Ending) (w' : World) : Prop :=
  ∃ A c A' c', e = .returned (.tuple #[.slice A (dq q) c, .slice A' (dq r) c']) ∧ Hid (RN w' w'.heap.size A c q) ∧ Hid (RN w' w'.heap.size A' c' r) ∧ Hid (Below w.heap.size w w')
theorem rn_nil (w : World) (B : Nat) (A : Option Addr) (c : Nat) : RN w B A c 0 := ⟨by rw [dq_zero]; exact Nat.zero_le _, by rw [digs_zero]; exact Rd.nil⟩
set_option maxHeartbeats 2000000 in
theorem rDiv_short {A A' : Option Addr} {m n c c' : Nat} {w : World} (h : RN w w.heap.size A c m) (hl : dq m ≤ 100000) (hl' : dq n ≤ 100000) (hs : dq m + 1 < dq n) :
    Calls Tryz.prog 42 #[.slice A (dq m) c, .slice A' (dq n) c'] w (RDivR w (m / n) (m % n)) := by
  have hmn : m < n := digs_len_lt (b := D4) (by decide) (show dq m < dq n by omega)
  have HX := hide h
  rw [Nat.div_eq_of_lt hmn, Nat.mod_eq_of_lt hmn]
  obtain ⟨k, hk⟩ : ∃ k : Int, (dq m : Int) - (dq n : Int) + 1 = k := ⟨_, rfl⟩
  have h0 : k < 0 := by omega
  clear h hmn
  go_enter Tryz.func42, Tryz.ntmps42
  go_wp2_with (first | (at_make; go_must (refine wpList_ints rfl _ _ rfl (dq m) _ rfl rfl (by omega) (by omega) ?_; intro g w1 hg hb1 hbel)))
  refine bodyPost_ret (v := .tuple #[.slice none 0 0, .slice A (dq m) c]) (by simp [results, Tryz.results42, go_sem]) rfl ?_
  exact ⟨none, 0, A, c, by rw [dq_zero], rn_nil _ _ _ _, (HX.out.below hbel).more hbel.size, hbel⟩
theorem slice_from (t e : TypeId) (i : TypeInfo) (ht : Tryz.prog.underlying t = some (.slice e)) (hi : Tryz.prog.info? e = some i) (hs : i.size = 1) (A : Option Addr) {n c k : Nat} (hk : k ≤ n) (W : World) :
    (Instr.sliceAt t (.slice A n c) (some (.int .i64 (k : Int))) none none).run Tryz.prog W = .ok (.slice (if c = k then A else A.map (·.add k)) (n - k) (c - k)) W := by
  have he : Tryz.prog.elem t = e := by simp [Program.elem, ht]
  have h2 : Tryz.prog.underlying t = some (.slice (Tryz.prog.elem t)) := by rw [he]; exact ht
  rw [run_sliceAt_slice W t _ _ _ _ h2, run_slice_l W t A n c h2 .i64 (k : Int) (by omega) (by omega), he]
  simp [sizeOf, typeInfo, hi, hs, sliced, Result.andThen]
/-- The row that append leaves, read as a list. -/
theorem row_own {w : World} {base n : Nat} {t : TypeId} {v : Value} {xs : List Value} {f : Nat → Value} {dd : List Nat} (h : w.ownsRow base t 1 v n xs) (hn : n = dd.length) (hx : xs = dd.map f) :
    ∃ A c, v = .slice A n c ∧ n ≤ c ∧ Rd f w w.heap.size A dd ∧ (∀ ad, A = some ad → v.ownBlock = some ad.block) := by
  subst hn; subst hx
  obtain ⟨A, c, rfl, h1, h2⟩ := row_rd h
  exact ⟨A, c, rfl, h1, h2, fun ad e => by subst e; rfl⟩
theorem RN.set {w : World} {B : Nat} {A : Option Addr} {c m g i : Nat} (h : RN w B A c m) (hg : ∀ ad, A = some ad → ad.block ≠ g) (u : Value) : RN (w.setCell ⟨g, i, none⟩ u) B A c m := by
  refine ⟨h.1, fun hn => ?_⟩
  obtain ⟨ad, e, hb, hx⟩ := h.2 hn
  refine ⟨ad, e, hb, fun j x hj => ?_⟩
  rw [World.cell?_setCell_other w ⟨g, i, none⟩ _ u (by intro e2; exact hg ad e (by rw [← block_add ad j, ← e2]))]
  exact hx j x hj
theorem dq_mul_le {n s : Nat} (hl : dq n ≤ 100000) (hs : s ≤ 9999) : dq (n * s) ≤ 1000000 := by
  have h1 : n < D4 ^ dq n := lt_pow_digs (b := D4) (by decide) n
  have h2 : n * s < D4 ^ (dq n + 1) := by
    rw [Nat.pow_succ]
    exact Nat.lt_of_le_of_lt (Nat.mul_le_mul_left n (show s ≤ D4 by rw [D4_eq]; omega)) (Nat.mul_lt_mul_of_pos_right h1 (by decide))
  have := dq_le h2
  omega
theorem dq_step {n r x : Nat} (hl : dq n ≤ 99999) (hr : r < n) (hx : x ≤ 9999) : dq (x + D4 * r) ≤ 100000 := by
  have h1 : n < D4 ^ dq n := lt_pow_digs (b := D4) (by decide) n
  have h2 : x + D4 * r < D4 ^ (dq n + 1) := by
    rw [Nat.pow_succ]
    generalize D4 ^ dq n = P at h1
    have h3 : (r + 1) * 10000 ≤ P * 10000 := Nat.mul_le_mul_right _ (by omega)
    rw [D4_eq]
    omega
  have := dq_le h2
  omega
set_option maxHeartbeats 8000000 in
theorem rDiv_long {A A' : Option Addr} {m n c c' top : Nat} {w : World} (h : RN w w.heap.size A c m) (h' : RN w w.heap.size A' c' n) (hl : dq m ≤ 99999) (hl' : dq n ≤ 99999) (hn : 0 < n) (ht : top + dq n = dq m + 1) :
    Calls Tryz.prog 42 #[.slice A (dq m) c, .slice A' (dq n) c'] w (RDivR w (m / n) (m % n)) := by
  have hn1 : 1 ≤ dq n := by
    rcases Nat.eq_zero_or_pos (dq n) with h0 | h0
    · have := (digs_len_pos (b := D4) (n := n) (by decide)).1 h0; omega
    · exact h0
  have HX := hide h
  have HY := hide h'
  have e1 : (dq m : Int) - (dq n : Int) + 1 = (top : Int) := by omega
  have hc := h.1
  obtain ⟨i0, hi0, hz0, hz1, hz2⟩ := info_parts Tryz.infoInt
  have I0 := hide hi0
  have Z0 := hide hz0
  have Z1 := hide hz1
  have Z2 := hide hz2
  clear hi0 hz0 hz1 hz2 h h'
  have htm : top ≤ dq m := by omega
  have ht1 : ¬ dq m < top := by omega
  have ht2 : ¬ (top : Int) < 0 := by omega
  have HS := hide (slice_from 34 3 i0 Tryz.underlying34 I0.out Z1.out A (c := c) htm)
  have HD : Hid (Rd I64 w w.heap.size (if c = top then A else A.map (·.add top)) ((digs D4 m).drop top)) := HX.out.2.cut hc
  obtain ⟨D, hD⟩ : ∃ D, D = (if c = top then A else A.map (·.add top)) := ⟨_, rfl⟩
  rw [← hD] at HS HD
  obtain ⟨r0, hr0⟩ : ∃ r, r = val D4 ((digs D4 m).drop top) := ⟨_, rfl⟩
  have HR0 : Hid (r0 < n) := by
    have h1 := val_drop_lt (m := m) htm
    rw [← hr0] at h1
    have h2 := pow_le_of_digs (b := D4) (n := n) (by decide) hn
    rw [show (digs D4 n).length - 1 = dq m - top by unfold dq at *; omega] at h2
    exact Nat.lt_of_lt_of_le h1 h2
  have GD : Hid (Good4 ((digs D4 m).drop top)) := fun x hx => good4_digs m x (List.mem_of_mem_drop hx)
  have HDL : Hid (dq m - top = ((digs D4 m).drop top).length) := by unfold Hid; rw [List.length_drop]; rfl
  have HTL : Hid (∀ j, j ≤ dq m → ((digs D4 m).drop j).length = dq m - j) := fun j _ => by rw [List.length_drop]; rfl
  clear hD
  have HRE := hide hr0.symm
  clear hr0
  have hS := HS.out
  go_enter Tryz.func42, Tryz.ntmps42
  go_wp2_with (first | (at_make; go_must (refine wpList_ints rfl _ _ rfl (dq m) _ rfl rfl (by omega) (by omega) ?_; intro g w1 hg hb1 hbel)) | (at_builtin; go_must (refine wpList_app (f := I64) (fun _ => rfl) rfl (.tmp 31) (.tmp 34) 34 rfl w.heap.size 3 i0 (.int .i64 0) 8 Tryz.underlying34 I0.out Z0.out Z1.out Z2.out rfl (v := .slice (some ⟨w1.heap.size, 0, none⟩) 0 0) (n := 0) (xs := []) rfl (World.ownsRow_lit w1 #[] 0 hbel.size (by simp only [maxLen]; omega) rfl) (B := w.heap.size) (A := D) (m := dq m - top) (c := c - top) (ws := (digs D4 m).drop top) rfl HDL.out ((HD.out.below hbel).below ((Below.refl _ _).alloc hbel.size _)) (by simp only [maxLen]; omega) (by omega) (by have := hbel.size; simp; omega) ?_; intro v2 w2 hown2 hgrow hat; obtain ⟨A2, c2, rfl, hc2, hr2, hab⟩ := row_own (f := I64) (dd := (digs D4 m).drop top) hown2 (by rw [Nat.zero_add]; exact HDL.out) (by simp); rw [Nat.zero_add] at hc2; simp only [Nat.zero_add])) | (go_at_call 83; (with_reducible refine (rtrim_post HDL.out HRE.out hr2 GD.out (by omega) hc2).mono ?_); rintro e w3 ⟨rfl, rfl⟩) | fail)
  have hgw : w.heap.size ≤ g := by rw [hg.out]; exact Nat.le_refl _
  have hgb : g < w1.heap.size := hb1.out.lt
  have HB3 : Hid (Below w.heap.size w w2) := (hbel.alloc hbel.size _).grown hgrow (by have := hbel.size; simp; omega) (fun k hk => by have e : some w1.heap.size = some k := hk; injection e with e; have := hbel.size; omega)
  have HQ3 : Hid (Blk I64 3 w2 g (List.replicate (dq m) 0)) := (hb1.out.alloc _).grown hgrow (by intro e; have e2 : some g = some w1.heap.size := e; injection e2 with e2; omega)
  have HR3 : Hid (RN w2 w2.heap.size A2 c2 r0) := rn_of HDL.out HRE.out hr2 GD.out hc2
  have HT3 : Hid (val D4 ((digs D4 m).drop top) = n * val D4 (List.replicate (dq m - top) 0) + r0) := by unfold Hid; rw [val_zeros, HRE.out, Nat.mul_zero, Nat.zero_add]
  clear hg hgb hgrow hat hab hr2 hc2 hown2 hbel hb1 HD HRE HDL GD hS HS
  go_loopw [8, 9] (fun rv iv wr => ∃ (j r : Nat) (R : Option Addr) (d : Nat) (hi : List Nat), j ≤ top ∧ iv = .int .i64 ((j : Int) - 1) ∧ rv = .slice R (dq r) d ∧ Hid (RN wr wr.heap.size R d r) ∧ Hid (r < n) ∧ Hid (hi.length = dq m - j) ∧ Hid (Good4 hi) ∧
      Hid (val D4 ((digs D4 m).drop j) = n * val D4 hi + r) ∧ Hid (Blk I64 3 wr g (List.replicate j 0 ++ hi)) ∧ Hid (Below w.heap.size w wr))
    (fun _ iv _ => (intOf iv + 1).toNat)
  case atStart =>
    refine ⟨top, r0, A2, c2, List.replicate (dq m - top) 0, Nat.le_refl _, rfl, rfl, HR3, HR0, by simp [Hid], by intro x hx; rw [(List.mem_replicate.1 hx).2]; decide, HT3, ?_, HB3⟩
    have h1 := HQ3.out
    rw [show dq m = top + (dq m - top) by omega, ← List.replicate_append_replicate] at h1
    exact h1
  case round =>
    obtain ⟨j, r, R, d, hi, hj, rfl, rfl, hr, hrn, hhl, hhg, hval, hblk, hbw⟩ := hrel
    by_cases h0 : j = 0
    · subst h0
      have HV : Hid (m / n = val D4 hi ∧ m % n = r) := by
        have h1 := hval.out
        rw [List.drop_zero, val_digs4] at h1
        exact rdiv_end h1 hrn.out
      have HLN : Hid (dq m = (List.replicate 0 0 ++ hi).length) := by unfold Hid; simp [hhl.out]
      have HVV : Hid (val D4 (List.replicate 0 0 ++ hi) = val D4 hi) := by simp [Hid]
      have HGG : Hid (Good4 (List.replicate 0 0 ++ hi)) := by simpa [Hid] using hhg.out
      have HRD := hide (hblk.out.rd0 hblk.out.lt)
      go_wp2_with (first | (go_at_call 83; (with_reducible refine (rtrim_post HLN.out HVV.out HRD.out HGG.out (by omega) (Nat.le_refl _)).mono ?_); rintro e w4 ⟨rfl, rfl⟩) | fail)
      refine bodyPost_ret (v := .tuple #[.slice (some ⟨g, 0, none⟩) (dq (val D4 hi)) (dq m), .slice R (dq r) d]) (by simp [results, Tryz.results42, go_sem]) rfl ?_
      show RDivR w (m / n) (m % n) _ _
      rw [HV.out.1, HV.out.2]
      exact ⟨_, _, _, _, rfl, rn_of HLN.out HVV.out HRD.out HGG.out (Nat.le_refl _), hr, hbw⟩
    · obtain ⟨i, rfl⟩ : ∃ i, j = i + 1 := ⟨j - 1, by omega⟩
      have hi' : i < (digs D4 m).length := by have : (digs D4 m).length = dq m := rfl; omega
      obtain ⟨ad, rfl, hab, hcell⟩ := ((HX.out.below hbw.out).2).at_ hi'
      obtain ⟨x, hx⟩ : ∃ x, x = (digs D4 m)[i] := ⟨_, rfl⟩
      rw [← hx] at hcell
      unfold I64 at hcell
      have hx9 : x ≤ 9999 := by rw [hx]; have h4 : D4 = 10000 := rfl; have := good4_digs m _ (List.getElem_mem hi'); omega
      have HDR : Hid ((digs D4 m).drop i = x :: (digs D4 m).drop (i + 1)) := by unfold Hid; rw [List.drop_eq_getElem_cons hi', ← hx]
      obtain ⟨r', hr'⟩ : ∃ r', r' = x + D4 * r := ⟨_, rfl⟩
      obtain ⟨t, htt⟩ : ∃ t, t = r' / n := ⟨_, rfl⟩
      have HDG := hide (rdiv_digit hrn.out hx9)
      have hq' : dq r' ≤ 100000 := by rw [hr']; exact dq_step (by omega) hrn.out hx9
      have HV1 : Hid (val D4 (x :: digs D4 r) = r') := by unfold Hid; rw [hr']; show x + D4 * val D4 (digs D4 r) = _; rw [val_digs4]
      rw [← hr', ← htt] at HDG
      have ht9 : t ≤ 9999 := HDG.out.1
      have HG1 : Hid (Good4 (x :: digs D4 r)) := by
        intro z hz
        rcases List.mem_cons.1 hz with rfl | hz
        · rw [D4_eq]; omega
        · exact good4_digs r z hz
      have HL1 : Hid (1 + dq r = (x :: digs D4 r).length) := by unfold Hid; rw [List.length_cons, Nat.add_comm]; rfl
      have hqr : dq r ≤ 100000 := Nat.le_trans (digs_len_mono (b := D4) (by decide) (Nat.le_of_lt hrn.out)) (by have : (digs D4 n).length = dq n := rfl; omega)
      have hii : i < dq m := hi'
      have HBIS := hide (fun s => bis_le (n := n) (s := s) (t := r') hn)
      rw [← htt] at HBIS
      have HST := hide (fun r2 (h : n * t + r2 = r') => rdiv_step hval.out (show n * t + r2 = x + D4 * r by rw [h, hr']))
      have HHR := hide hr'
      clear hx hi' h0 hr' htt
      go_wp2_with (first | (at_builtin; go_must (refine wpList_app (f := I64) (fun _ => rfl) rfl (.tmp 48) (.tmp 49) 34 rfl w.heap.size 3 i0 (.int .i64 0) 8 Tryz.underlying34 I0.out Z0.out Z1.out Z2.out rfl (v := .slice (some ⟨wr.heap.size, 0, none⟩) 1 1) (n := 1) (xs := [.int .i64 (x : Int)]) rfl (World.ownsRow_lit wr #[.int .i64 (x : Int)] 1 hbw.out.size (by simp only [maxLen]; omega) rfl) (B := wr.heap.size) (A := R) (m := dq r) (c := d) (ws := digs D4 r) rfl rfl (hr.out.2.below ((Below.refl _ _).alloc (Nat.le_refl _) _)) (by simp only [maxLen]; omega) (by omega) (by have := hbw.out.size; simp; omega) ?_; intro v4 w4 hown4 hgrow hat; obtain ⟨A4, c4, rfl, hc4, hr4, hab4⟩ := row_own (f := I64) (dd := x :: digs D4 r) hown4 HL1.out (by simp [I64]))) | (go_at_call 83; (with_reducible refine (rtrim_post HL1.out HV1.out hr4 HG1.out (by omega) hc4).mono ?_); rintro e w5 ⟨rfl, rfl⟩) | fail)
      have hgr : g < wr.heap.size := hblk.out.lt
      have HB4 : Hid (Below w.heap.size w w4) := (hbw.out.alloc hbw.out.size _).grown hgrow (by have := hbw.out.size; simp; omega) (fun k hk => by have e : some wr.heap.size = some k := hk; injection e with e; have := hbw.out.size; omega)
      have HQ4 : Hid (Blk I64 3 w4 g (List.replicate (i + 1) 0 ++ hi)) := (hblk.out.alloc _).grown hgrow (by intro e; have e2 : some g = some wr.heap.size := e; injection e2 with e2; omega)
      have HR4 : Hid (RN w4 w4.heap.size A4 c4 r') := rn_of HL1.out HV1.out hr4 HG1.out hc4
      have HN4 : Hid (∀ ad, A4 = some ad → ad.block ≠ g) := fun ad4 e4 => by
        have h1 := hab4 ad4 e4
        rcases hat with h2 | h2
        · rw [h1] at h2
          have e : some ad4.block = some wr.heap.size := h2
          injection e with e; omega
        · rw [h1] at h2
          injection h2 with h2
          simp at h2; omega
      clear hgr hgrow hat hab4 hr4 hc4 hown4 hcell
      go_loopw [10, 11] (fun lo hv wz => ∃ a b : Nat, lo = .int .i64 (a : Int) ∧ hv = .int .i64 (b : Int) ∧ a ≤ t ∧ t ≤ b ∧ b ≤ 9999 ∧ Hid (Below w4.heap.size w4 wz)) (fun lo hv _ => (intOf hv).toNat - (intOf lo).toNat)
      case atStart => exact ⟨0, 9999, rfl, rfl, Nat.zero_le _, ht9, Nat.le_refl _, Below.refl _ _⟩
      case round =>
        obtain ⟨a, b, rfl, rfl, ha, hb, hb9, hbz⟩ := hrel
        by_cases hab2 : a < b
        · obtain ⟨s, hs⟩ : ∃ s, s = (a + b + 1) / 2 := ⟨_, rfl⟩
          have hs1 : a < s := by omega
          have hs2 : s ≤ b := by omega
          have e2 : ((a : Int) + (b : Int) + 1) / 2 = (s : Int) := by omega
          have e3 : ((a : Int) + (b : Int) + 1).tdiv 2 = (s : Int) := by rw [Int.tdiv_eq_ediv_of_nonneg (by omega)]; exact e2
          have HS1 : Hid (s - 1 < s ∧ (s : Int) - 1 = ((s - 1 : Nat) : Int)) := by unfold Hid; omega
          clear hs
          have hs9 : s ≤ 9999 := by omega
          have hqm := dq_mul_le (n := n) (s := s) (by omega) hs9
          have CS : Hid (Calls Tryz.prog 41 #[.int .u64 (s : Int)] wr (RefPost wr s)) := Small_any (by omega)
          have HYz : Hid (RN wr wr.heap.size A' c' n) := (HY.out.below (HB4.out.trans (hbz.out.mono HB4.out.size))).more (Nat.le_trans HB4.out.size hbz.out.size)
          have CM : Hid (∀ W B d, Hid (RN W W.heap.size B d s) → Hid (Below wr.heap.size wr W) → Calls Tryz.prog 49 #[.slice A' (dq n) c', .slice B (dq s) d] W (RefPost W (n * s))) := fun W B d h1 h2 => rMul_any ((HYz.out.below h2.out).more h2.out.size) h1.out (by omega) (Nat.le_trans (dq_u64 (by omega)) (by omega))
          have HR6 : Hid (∀ W, Below wr.heap.size wr W → RN W W.heap.size A4 c4 r') := fun W h2 => (((HR4.out.below hbz.out).more hbz.out.size).below h2).more h2.size
          by_cases hle : n * s ≤ r'
          · have hst : s ≤ t := (HBIS.out s).1 hle
            obtain ⟨v, hv, hv0⟩ : ∃ v, cmpI (n * s) r' = v ∧ v ≤ 0 := by
              rcases Nat.lt_or_eq_of_le hle with h | h
              · exact ⟨_, cmpI_lt h, by decide⟩
              · exact ⟨_, cmpI_eq h, by decide⟩
            have CC : Hid (∀ W B d, Hid (RN W W.heap.size B d (n * s)) → Below wr.heap.size wr W → Calls Tryz.prog 77 #[.slice B (dq (n * s)) d, .slice A4 (dq r') c4] W (fun e w' => e = .returned (.int .i64 v) ∧ ∃ q, w' = W.drewN q)) := fun W B d h1 h2 => by rw [← hv]; exact rCmp_any h1.out (HR6.out W h2) (by omega) (by omega)
            clear hv hle
            go_wp2_with (first | (go_at_call 41; (with_reducible refine CS.out.mono ?_); rintro e w6 ⟨B6, d6, rfl, hn6, hbk6⟩) | (go_at_call 49; (with_reducible refine (CM.out _ _ _ hn6 hbk6).mono ?_); rintro e w7 ⟨B7, d7, rfl, hn7, hbk7⟩) | (go_at_call 77; (with_reducible refine (CC.out _ _ _ hn7 (hbk6.out.trans (hbk7.out.mono hbk6.out.size))).mono ?_); rintro e w8 ⟨rfl, nq, rfl⟩) | fail)
            go_roundw
            case rel => exact ⟨s, b, rfl, rfl, hst, hb, hb9, below_drewN ((hbz.out.trans (hbk6.out.mono hbz.out.size)).trans (hbk7.out.mono (Nat.le_trans hbz.out.size hbk6.out.size))) _⟩
            case measure => simp [intOf]; omega
          · have hst : ¬ s ≤ t := fun h => hle ((HBIS.out s).2 h)
            obtain ⟨v, hv, hv0⟩ : ∃ v, cmpI (n * s) r' = v ∧ ¬ v ≤ 0 := ⟨_, cmpI_gt (by omega), by decide⟩
            have CC : Hid (∀ W B d, Hid (RN W W.heap.size B d (n * s)) → Below wr.heap.size wr W → Calls Tryz.prog 77 #[.slice B (dq (n * s)) d, .slice A4 (dq r') c4] W (fun e w' => e = .returned (.int .i64 v) ∧ ∃ q, w' = W.drewN q)) := fun W B d h1 h2 => by rw [← hv]; exact rCmp_any h1.out (HR6.out W h2) (by omega) (by omega)
            clear hv hle
            go_wp2_with (first | (go_at_call 41; (with_reducible refine CS.out.mono ?_); rintro e w6 ⟨B6, d6, rfl, hn6, hbk6⟩) | (go_at_call 49; (with_reducible refine (CM.out _ _ _ hn6 hbk6).mono ?_); rintro e w7 ⟨B7, d7, rfl, hn7, hbk7⟩) | (go_at_call 77; (with_reducible refine (CC.out _ _ _ hn7 (hbk6.out.trans (hbk7.out.mono hbk6.out.size))).mono ?_); rintro e w8 ⟨rfl, nq, rfl⟩) | fail)
            go_roundw
            case rel => exact ⟨a, s - 1, rfl, by rw [HS1.out.2], ha, by omega, by omega, below_drewN ((hbz.out.trans (hbk6.out.mono hbz.out.size)).trans (hbk7.out.mono (Nat.le_trans hbz.out.size hbk6.out.size))) _⟩
            case measure => have := HS1.out; simp [intOf]; omega
        · obtain rfl : a = t := by omega
          have HBz : Hid (Below w.heap.size w wr) := HB4.out.trans (hbz.out.mono HB4.out.size)
          have HQz : Hid (Blk I64 3 wr g (List.replicate (i + 1) 0 ++ hi)) := hbz.out.block g HQ4.out.lt |>.trans HQ4.out
          have HRz : Hid (RN wr wr.heap.size A4 c4 r') := (HR4.out.below hbz.out).more hbz.out.size
          have hcs : wr.cell? ⟨g, i, none⟩ = some (.int .i64 0) := HQz.out.cell (by rw [List.getElem?_append_left (by simp)]; simp)
          have hfz := HQz.out.frozen i
          have CS : Hid (∀ W, Calls Tryz.prog 41 #[.int .u64 (a : Int)] W (RefPost W a)) := fun W => Small_any (by omega)
          have CM : Hid (∀ W B d, Hid (RN W W.heap.size B d a) → Below w.heap.size w W → Calls Tryz.prog 49 #[.slice A' (dq n) c', .slice B (dq a) d] W (RefPost W (n * a))) := fun W B d h1 h2 => rMul_any ((HY.out.below h2).more h2.size) h1.out (by omega) (Nat.le_trans (dq_u64 (by omega)) (by omega))
          have CB : Hid (∀ W B d, Hid (RN W W.heap.size B d (n * a)) → RN W W.heap.size A4 c4 r' → Calls Tryz.prog 80 #[.slice A4 (dq r') c4, .slice B (dq (n * a)) d] W (RefPost W (r' - n * a))) := fun W B d h1 h2 => rSub_any h2 h1.out (by omega) HDG.out.2.2
          have CR : Hid (∀ u W, Below (wr.setCell ⟨g, i, none⟩ u).heap.size (wr.setCell ⟨g, i, none⟩ u) W → RN W W.heap.size A4 c4 r') := fun u W hb => by
            have h1 := HRz.out.set HN4.out (i := i) u
            have e : (wr.setCell ⟨g, i, none⟩ u).heap.size = wr.heap.size := by simp [World.setCell]
            rw [← e] at h1
            exact (h1.below hb).more hb.size
          go_wp2_with (first | (go_at_call 41; (with_reducible refine (CS.out _).mono ?_); rintro e w6 ⟨B6, d6, rfl, hn6, hbk6⟩) | (go_at_call 49; (with_reducible refine (CM.out _ _ _ hn6 ((HBz.out.setCell hgw _).trans (hbk6.out.mono (HBz.out.setCell hgw _).size))).mono ?_); rintro e w7 ⟨B7, d7, rfl, hn7, hbk7⟩) | (go_at_call 80; (with_reducible refine (CB.out _ _ _ hn7 (CR.out _ _ (hbk6.out.trans (hbk7.out.mono hbk6.out.size)))).mono ?_); rintro e w8 ⟨B8, d8, rfl, hn8, hbk8⟩) | fail)
          have HW8 : Hid (Below (wr.setCell ⟨g, i, none⟩ (.int .i64 (a : Int))).heap.size (wr.setCell ⟨g, i, none⟩ (.int .i64 (a : Int))) w8) := (hbk6.out.trans (hbk7.out.mono hbk6.out.size)).trans (hbk8.out.mono (Nat.le_trans hbk6.out.size hbk7.out.size))
          go_roundw
          case rel =>
            refine ⟨i, r' - n * a, B8, d8, a :: hi, by omega, rfl, rfl, hn8, HDG.out.2.1, ?_, ?_, ?_, ?_, ?_⟩
            · have := hhl.out; unfold Hid; rw [List.length_cons]; omega
            · intro z hz
              rcases List.mem_cons.1 hz with rfl | hz
              · rw [D4_eq]; omega
              · exact hhg.out z hz
            · unfold Hid
              rw [HDR.out]
              exact HST.out _ (by have := HDG.out.2.2; omega)
            · have h1 := HQz.out.set_ i a
              rw [zeros_set] at h1
              exact (HW8.out.block g (by simpa [World.setCell] using HQz.out.lt)).trans h1
            · exact (HBz.out.setCell hgw _).trans (HW8.out.mono (HBz.out.setCell hgw _).size)
          case measure => simp [intOf]

theorem rDiv_any {A A' : Option Addr} {m n c c' : Nat} {w : World} (h : RN w w.heap.size A c m) (h' : RN w w.heap.size A' c' n) (hl : dq m ≤ 99999) (hl' : dq n ≤ 99999) (hn : 0 < n) :
    Calls Tryz.prog 42 #[.slice A (dq m) c, .slice A' (dq n) c'] w (RDivR w (m / n) (m % n)) := by
  by_cases hs : dq m + 1 < dq n
  · exact rDiv_short h (by omega) (by omega) hs
  · exact rDiv_long (top := dq m + 1 - dq n) h h' hl hl' hn (by omega)
end Go.Proofs.YtmiklffjffdkgaaGreatDoor
end
