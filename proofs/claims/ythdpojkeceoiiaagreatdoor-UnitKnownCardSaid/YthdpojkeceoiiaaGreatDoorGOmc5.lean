/- Several texts in one, each with its own sentence and conditions. -/
import Derived.Test.YthdpojkeceoiiaaGreatDoorGOmc4
import Derived.Deep.LoopGhost
import Derived.Maps.AppendAt
import Derived.Deep.RegionHeld3
section
/- The document's own numbers: Small, Add. Conditions: at most 100000 fours of digits. -/
open Go.RowKit
set_option maxRecDepth 100000
namespace Go.Proofs.YthdpojkeceoiiaaGreatDoor
theorem row_rd {f : Nat → Value} {t : TypeId} {w : World} {base : Nat} {v : Value} {dd : List Nat} (h : w.ownsRow base t 1 v dd.length (dd.map f)) : ∃ A c, v = .slice A dd.length c ∧ dd.length ≤ c ∧ Rd f w w.heap.size A dd := by
  have h' := h
  rcases h.2 with ⟨rfl, h0⟩ | ⟨g, cap, cur, rfl, _, _, hn, _⟩
  · have := List.eq_nil_of_length_eq_zero h0
    subst this
    exact ⟨none, 0, rfl, Nat.le_refl _, Rd.nil⟩
  · exact ⟨_, cap, rfl, hn, fun _ => ⟨_, rfl, (h'.lt g rfl).2, fun j x hx => World.ownsRow.cells h' rfl j _ (by rw [List.getElem?_map, hx]; rfl)⟩⟩
theorem app_below {w wr w1 : World} {base n : Nat} {t : TypeId} {dv : Value} {xs : List Value} {o : Obj} (hown : wr.ownsRow base t 1 dv n xs) (hbel : Below w.heap.size w wr) (hg : w.heap.size ≤ base) (hgrow : (wr.alloc o).grownBy w1 dv.ownBlock) : Below w.heap.size w w1 :=
  (hbel.alloc hbel.size _).grown hgrow (by have := hbel.size; simp; omega) (fun k hk => by have := (hown.lt k hk).1; omega)
theorem dq_u64 {n : Nat} (h : n < 100000000000000000000) : dq n ≤ 5 := by
  rcases Nat.eq_zero_or_pos n with rfl | h0
  · unfold dq; rw [digs_zero]; simp
  · have h1 := pow_le_of_digs (b := D4) (by decide) h0
    have h2 : D4 ^ (dq n - 1) < D4 ^ 5 := Nat.lt_of_le_of_lt h1 (by rw [D4_eq]; omega)
    have h3 := (Nat.pow_lt_pow_iff_right (a := D4) (by decide)).1 h2
    omega
set_option maxHeartbeats 1000000 in
theorem Small_any {n : Nat} {w : World} (hn : n < 18446744073709551616) : Calls Tryz.prog 155 #[.int .u64 (n : Int)] w (RefPost w n) := by
  have HQ : Hid (dq n ≤ 5) := dq_u64 (by omega)
  obtain ⟨i0, hi0, hz0, hz1, hz2⟩ := info_parts Tryz.infoInt
  have I0 := hide hi0
  have Z0 := hide hz0
  have Z1 := hide hz1
  have Z2 := hide hz2
  have HN := hide hn
  clear hi0 hz0 hz1 hz2 hn
  go_enter Tryz.func155, Tryz.ntmps155
  go_wp2
  go_loopw [0, 3] (fun nv dv wr => ∃ (v : Nat) (dd : List Nat), nv = .int .u64 (v : Int) ∧ Hid (v < 18446744073709551616) ∧ Hid (dd ++ digs D4 v = digs D4 n) ∧ Hid (wr.ownsRow w.heap.size 3 1 dv dd.length (dd.map I64)) ∧ Hid (Below w.heap.size w wr))
    (fun nv _ _ => (intOf nv).toNat)
  case atStart => exact ⟨n, [], rfl, HN, rfl, World.ownsRow_nil _ _ _ _, Below.refl _ _⟩
  case round =>
    obtain ⟨v, dd, rfl, hvn, hdd, hown, hbel⟩ := hrel
    by_cases h0 : v = 0
    · subst h0
      have HE : Hid (dd = digs D4 n) := by have := hdd.out; rw [digs_zero, List.append_nil] at this; exact this
      go_wp2
      go_ret
      obtain ⟨A, c, rfl, hc, hr⟩ := row_rd hown.out
      rw [HE.out] at hr hc ⊢
      exact ⟨A, c, rfl, ⟨hc, hr⟩, hbel⟩
    · have hv : 0 < v := by omega
      have HD : Hid ((dd ++ [v % 10000]) ++ digs D4 (v / 10000) = digs D4 n) := by
        have := hdd.out
        rw [digs_pos (by decide) hv] at this
        unfold Hid
        rw [← this, List.append_assoc]; rfl
      have hlen : dd.length ≤ 5 := by
        have := congrArg List.length hdd.out
        rw [List.length_append] at this
        have h5 : (digs D4 n).length ≤ 5 := HQ.out
        omega
      have H63 : Hid (dd.length + 1 ≤ maxLen) := by simp only [maxLen, Hid]; omega
      have HB : Hid (w.heap.size ≤ (wr.alloc (.cells #[.int .i64 ((v : Int) % 10000)] 3)).heap.size) := by have := hbel.out.size; simp [Hid]; omega
      have HE : Hid (IntKind.u64.wrap ((v : Int) / 10000) = ((v / 10000 : Nat) : Int)) := by
        have h1 := hvn.out
        unfold Hid
        rw [show ((v : Int) / 10000) = ((v / 10000 : Nat) : Int) from rfl, u64_nat (by omega)]
      clear h0
      go_wp2_with (first | (at_builtin; go_must (refine wpList_append_own _ rfl (.tmp 6) (.tmp 10) 204 rfl w.heap.size 3 i0 (.int .i64 0) 1 8 Tryz.underlying204 I0.out Z0.out Z1.out Z2.out rfl (by decide) _ _ _ rfl (hown.out.alloc _) ⟨wr.heap.size, 0, none⟩ 1 1 [.int .i64 ((v : Int) % 10000)] rfl rfl (cell_one_new _ _ _) (by intro u hu; simp at hu; subst hu; rfl) H63.out (by omega) HB.out ?_; intro v2 w3 hown' hgrow hnil)))
      go_roundw
      case rel => exact ⟨v / 10000, dd ++ [v % 10000], by rw [HE.out], by have := hvn.out; unfold Hid; omega, HD, by unfold Hid; rw [List.length_append, List.map_append]; exact hown', app_below hown.out hbel.out (Nat.le_refl _) hgrow⟩
      case measure => rw [HE.out]; simp only [intOf]; omega
theorem val_take_getD (b : Nat) (L : List Nat) (i : Nat) : val b (L.take (i + 1)) = val b (L.take i) + b ^ i * (L[i]?.getD 0) := by
  rcases Nat.lt_or_ge i L.length with h | h
  · rw [val_take_succ b (List.getElem?_eq_getElem h), List.getElem?_eq_getElem h]; rfl
  · rw [val_take_more b h, List.getElem?_eq_none h]; rfl
theorem getD_lt {L : List Nat} (h : Good4 L) (i : Nat) : L[i]?.getD 0 ≤ 9999 := by
  rcases Nat.lt_or_ge i L.length with h1 | h1
  · rw [List.getElem?_eq_getElem h1]
    have := h _ (List.getElem_mem h1)
    rw [D4_eq] at this
    show L[i] ≤ 9999; omega
  · rw [List.getElem?_eq_none h1]; exact Nat.zero_le _
theorem lohi4 (t : Nat) : t % D4 + D4 * (t / D4) = t := Nat.mod_add_div t D4
end Go.Proofs.YthdpojkeceoiiaaGreatDoor
end

section
/- The document's own numbers: Sub. Conditions: at most 100000 fours of digits; a is at least b. -/
open Go.RowKit
set_option maxRecDepth 100000
namespace Go.Proofs.YthdpojkeceoiiaaGreatDoor
theorem rsub_end {V m n k cr : Nat} (h : V + n = m + D4 ^ k * cr) (hV : V < D4 ^ k) (hnm : n ≤ m) (hc : cr ≤ 1) : V = m - n := by
  rcases Nat.eq_zero_or_pos cr with h0 | h0
  · rw [h0, Nat.mul_zero] at h; omega
  · obtain rfl : cr = 1 := by omega
    rw [Nat.mul_one] at h; omega
end Go.Proofs.YthdpojkeceoiiaaGreatDoor
end

section
/- Words for the document's own division: the reckoning, and append of any slice that reads as a list. No conditions. -/
open Go.RowKit
set_option maxRecDepth 100000
namespace Go.Proofs.YthdpojkeceoiiaaGreatDoor
section
variable {P : Program} {w : World}
/-- Of a nil slice append adds nothing. -/
theorem app_nil (base : Nat) (t ty e : TypeId) (i : TypeInfo) (size : Nat) (ht : P.underlying t = some (.slice e)) (hi : P.info? e = some i)
    (v : Value) (n : Nat) (xs : List Value) (hown : w.ownsRow base e size v n xs) (c : Nat) : (Builtin.append_ #[t, t] ty #[v, .slice none 0 c]).run P w = .ok v w := by
  rcases hown.2 with ⟨rfl, rfl⟩ | ⟨g, cap, cur, rfl, _, _, hnc, _⟩
  · simp [Builtin.append_, run_underlying ht, sizeOf, typeInfo, hi, Builtin.lenOf, Builtin.firstCells]
  · simp [Builtin.append_, run_underlying ht, sizeOf, typeInfo, hi, Builtin.lenOf, Builtin.firstCells, hnc, storeCells]
theorem app_run {f : Nat → Value} (hf : ∀ x, (f x).oneCell' = true) (base : Nat) (t ty e : TypeId) (i : TypeInfo) (z : Value) (bytes : Nat) (ht : P.underlying t = some (.slice e)) (hi : P.info? e = some i) (hz : i.zero = some z)
    (hsize : i.size = 1) (hby : i.bytes = bytes) (hzs : z.cells.size = 1) {v : Value} {n : Nat} {xs : List Value} (hown : w.ownsRow base e 1 v n xs)
    {B : Nat} {A : Option Addr} {m c : Nat} {ws : List Nat} (hm : m = ws.length) (hr : Rd f w B A ws) (h63 : n + m ≤ maxLen) (hbytes : (n + m) * bytes ≤ 140737488355328) (hbase : base ≤ w.heap.size) :
    ∃ v' w', (Builtin.append_ #[t, t] ty #[v, .slice A m c]).run P w = .ok v' w' ∧ w'.ownsRow base e 1 v' (n + m) (xs ++ ws.map f) ∧ w.grownBy w' v.ownBlock ∧ (v'.ownBlock = v.ownBlock ∨ v'.ownBlock = some w.heap.size) := by
  subst hm
  by_cases h0 : ws = []
  · subst h0
    cases A with
    | none => exact ⟨v, w, app_nil base t ty e i 1 ht hi v n xs hown c, by simpa using hown, World.grownBy.refl w _, .inl rfl⟩
    | some ad =>
      obtain ⟨v', w', h1, h2, h3, _, h5⟩ := run_append_own_at (P := P) w base t ty e i z 1 bytes ht hi hz hsize hby hzs (by decide) v n xs hown ad 0 c [] (by simp) (by simp) (by simp) h63 hbytes hbase
      exact ⟨v', w', h1, by simpa using h2, h3, h5⟩
  · obtain ⟨ad, rfl, _, hc⟩ := hr (List.length_pos_iff.2 h0)
    obtain ⟨v', w', h1, h2, h3, _, h5⟩ := run_append_own_at (P := P) w base t ty e i z 1 bytes ht hi hz hsize hby hzs (by decide) v n xs hown ad ws.length c (ws.map f) (by simp) (fun j u hu => by
      rw [List.getElem?_map] at hu
      cases hj : ws[j]? with
      | none => rw [hj] at hu; cases hu
      | some x => rw [hj] at hu; injection hu with hu; rw [← hu]; exact hc j x hj) (by intro u hu; obtain ⟨x, _, rfl⟩ := List.mem_map.1 hu; exact hf x) h63 hbytes hbase
    exact ⟨v', w', h1, h2, h3, h5⟩
theorem wpList_app {f : Nat → Value} (hf : ∀ x, (f x).oneCell' = true) {ops : Array Oper} {rest : List Oper} {o : Oper} {a : Act} {Q : Exit → Act → World → Prop} (hgd : o.guard = none) (s x : Operand) (t : TypeId)
    (ho : o.op = .call { callee := .builtin .append, args := #[s, x], argTypes := #[t, t] }) (base : Nat) (e : TypeId) (i : TypeInfo) (z : Value) (bytes : Nat) (ht : P.underlying t = some (.slice e)) (hi : P.info? e = some i) (hz : i.zero = some z)
    (hsize : i.size = 1) (hby : i.bytes = bytes) (hzs : z.cells.size = 1) {v : Value} {n : Nat} {xs : List Value} (hs : a.eval s = v) (hown : w.ownsRow base e 1 v n xs)
    {B : Nat} {A : Option Addr} {m c : Nat} {ws : List Nat} (hx : a.eval x = .slice A m c) (hm : m = ws.length) (hr : Rd f w B A ws) (h63 : n + m ≤ maxLen) (hbytes : (n + m) * bytes ≤ 140737488355328) (hbase : base ≤ w.heap.size)
    (h : ∀ v' w', w'.ownsRow base e 1 v' (n + m) (xs ++ ws.map f) → w.grownBy w' v.ownBlock → (v'.ownBlock = v.ownBlock ∨ v'.ownBlock = some w.heap.size) → wpList P ops Q rest (a.put o.dst v') w') : wpList P ops Q (o :: rest) a w := by
  refine wpList_plain hgd fun K hK => ?_
  obtain ⟨v', w', h1, h2, h3, h4⟩ := app_run (P := P) hf base t o.type e i z bytes ht hi hz hsize hby hzs hown hm hr h63 hbytes hbase
  unfold Oper.wp execOp
  simp only [ho, resolve, invoke, builtin, Sem.run_bind, Sem.run_pure, Result.andThen_ok, List.map_toArray, List.map_cons, List.map_nil, hs, hx]
  rw [h1]
  exact hK _ _ (h v' w' h2 h3 h4)
end
/-- One digit of the quotient. -/
theorem rdiv_digit {n r x : Nat} (hr : r < n) (hx : x ≤ 9999) : (x + D4 * r) / n ≤ 9999 ∧ (x + D4 * r) - n * ((x + D4 * r) / n) < n ∧ n * ((x + D4 * r) / n) ≤ x + D4 * r := by
  have h0 : 0 < n := by omega
  have h1 : (x + D4 * r) / n < 10000 := by
    rw [Nat.div_lt_iff_lt_mul h0]
    have : D4 * (r + 1) ≤ 10000 * n := Nat.mul_le_mul (by decide) hr
    rw [Nat.mul_add, D4_eq] at this
    rw [D4_eq]; omega
  have h2 := Nat.div_add_mod (x + D4 * r) n
  have h3 := Nat.mod_lt (x + D4 * r) h0
  omega
theorem rdiv_step {n H r x M t r' : Nat} (hM : M = n * H + r) (ht : n * t + r' = x + D4 * r) : x + D4 * M = n * (t + D4 * H) + r' := by
  have e1 : n * (t + D4 * H) = n * t + D4 * (n * H) := by rw [Nat.mul_add, Nat.mul_left_comm]
  rw [hM, e1, Nat.mul_add]; omega
theorem rdiv_end {m n Q r : Nat} (hM : m = n * Q + r) (hr : r < n) : m / n = Q ∧ m % n = r := by
  exact (Nat.div_mod_unique (a := m) (b := n) (by omega)).2 ⟨by rw [hM, Nat.add_comm], hr⟩
theorem zeros_set {hi : List Nat} {i v : Nat} : (List.replicate (i + 1) 0 ++ hi).set i v = List.replicate i 0 ++ (v :: hi) := by
  rw [List.replicate_succ']
  rw [List.append_assoc, List.set_append_right _ _ (by simp)]
  simp
theorem val_drop_lt {m top : Nat} (h : top ≤ dq m) : val D4 ((digs D4 m).drop top) < D4 ^ (dq m - top) := by
  have := val_lt ((digs D4 m).drop top) (fun x hx => good4_digs m x (List.mem_of_mem_drop hx))
  rwa [List.length_drop] at this
/-- The bisection's step. -/
theorem bis_le {n s t : Nat} (h0 : 0 < n) : n * s ≤ t ↔ s ≤ t / n := by rw [Nat.mul_comm]; exact (Nat.le_div_iff_mul_le h0).symm
end Go.Proofs.YthdpojkeceoiiaaGreatDoor
end

section
/- The document's own numbers: Mul. Conditions: at most 100000 fours of digits. -/
open Go.RowKit
set_option maxRecDepth 100000
namespace Go.Proofs.YthdpojkeceoiiaaGreatDoor
theorem made_i64 (w : World) (n : Nat) : Blk I64 3 (w.alloc (.cells (madeCells #[.int .i64 0] n) 3)) w.heap.size (List.replicate n 0) := made_zeros w _ _ n
theorem make_ints (n : Nat) (hn : n ≤ 1000000) (w : World) : (Instr.makeSlice 204 (.int .i64 (n : Int)) (.int .i64 (n : Int))).run Tryz.prog w =
    .ok (.slice (some ⟨w.heap.size, 0, none⟩) n n) (w.alloc (.cells (madeCells #[.int .i64 0] n) 3)) := by
  obtain ⟨i0, hi0, hz0, hz1, hz2⟩ := info_parts Tryz.infoInt
  have h := run_make (P := Tryz.prog) w 204 3 i0 (.int .i64 0) Tryz.underlying204 hi0 hz0 .i64 .i64 n n (by omega) (by omega) (by rw [hz2]; omega) (by omega)
  simpa [hz1, Value.cells] using h
theorem wpList_ints {w : World} {ops : Array Oper} {rest : List Oper} {o : Oper} {a : Act} {Q : Exit → Act → World → Prop} (hgd : o.guard = none) (l c : Operand) (hop : o.op = Op.makeSlice 204 l c)
    (n : Nat) (N : Int) (hl : a.eval l = .int .i64 N) (hc : a.eval c = .int .i64 N) (hN : N = (n : Int)) (hn : n ≤ 1000000)
    (h : ∀ g w', Hid (g = w.heap.size) → Hid (Blk I64 3 w' g (List.replicate n 0)) → Below w.heap.size w w' → wpList Tryz.prog ops Q rest (a.put o.dst (.slice (some ⟨g, 0, none⟩) n n)) w') : wpList Tryz.prog ops Q (o :: rest) a w := by
  subst hN
  exact wpList_made hgd l c _ hop _ _ _ hl hc (make_ints n hn w) (h _ _ rfl (made_i64 w n) ((Below.refl _ _).alloc (Nat.le_refl _) _))
theorem rmul_end {R seg : List Nat} {i k x m' X : Nat} (hi : i + k ≤ R.length) (hs : seg.length = k) (hR : val D4 R = X * m') (hv : val D4 seg = val D4 ((R.drop i).take k) + x * m') :
    val D4 (R.take i ++ (seg ++ R.drop (i + k))) = (X + D4 ^ i * x) * m' := by
  rw [val_append, val_append, hv, hs, List.length_take, Nat.min_eq_left (by omega)]
  have e : val D4 R = val D4 (R.take i) + D4 ^ i * (val D4 ((R.drop i).take k) + D4 ^ k * val D4 (R.drop (i + k))) := by
    have h1 := val_append D4 (R.take i) (R.drop i)
    rw [List.take_append_drop, List.length_take, Nat.min_eq_left (by omega)] at h1
    have h2 := val_append D4 ((R.drop i).take k) ((R.drop i).drop k)
    rw [List.take_append_drop, List.length_take, List.length_drop, Nat.min_eq_left (by omega), List.drop_drop] at h2
    rw [h1, h2]
  rw [Nat.add_mul, ← hR, e, Nat.mul_assoc]
  generalize D4 ^ i = P
  simp only [Nat.mul_add]; omega
theorem good4_app {l m : List Nat} (h : Good4 l) (hm : Good4 m) : Good4 (l ++ m) := by
  intro x hx
  rcases List.mem_append.1 hx with hx | hx
  · exact h x hx
  · exact hm x hx
theorem rmul_math {P V c A x Y s y t q r : Nat} (h : V + P * c = A + x * Y) (ht : t = s + x * y + c) (hq : r + D4 * q = t) : V + P * r + P * D4 * q = A + P * s + x * (Y + P * y) := by
  have e1 : P * r + P * D4 * q = P * t := by rw [← hq, Nat.mul_add, Nat.mul_assoc]
  have e2 : P * t = P * s + P * (x * y) + P * c := by rw [ht, Nat.mul_add, Nat.mul_add]
  have e3 : x * (P * y) = P * (x * y) := by rw [Nat.mul_left_comm]
  rw [Nat.mul_add x, e3]; omega
end Go.Proofs.YthdpojkeceoiiaaGreatDoor
end

section
/- The document's own numbers: Words. Conditions: at most 4000 words. -/
open Go.RowKit
set_option maxRecDepth 100000
namespace Go.Proofs.YthdpojkeceoiiaaGreatDoor
theorem dq_le {m k : Nat} (h : m < D4 ^ k) : dq m ≤ k := by
  rcases Nat.eq_zero_or_pos m with rfl | h0
  · unfold dq; rw [digs_zero]; simp
  · have h1 := pow_le_of_digs (b := D4) (by decide) h0
    have h2 : D4 ^ (dq m - 1) < D4 ^ k := Nat.lt_of_le_of_lt h1 h
    have h3 := (Nat.pow_lt_pow_iff_right (a := D4) (by decide)).1 h2
    omega
theorem dq_words {m k : Nat} (h : m < W32 ^ k) : dq m ≤ 3 * k := by
  refine dq_le (Nat.lt_of_lt_of_le h ?_)
  rw [Nat.pow_mul]
  exact Nat.pow_le_pow_left (by decide) k
theorem dq_zero : dq 0 = 0 := by unfold dq; rw [digs_zero]; rfl
theorem u64_of_word {x : Nat} (h : x ≤ 4294967295) : x < 18446744073709551616 := by omega
theorem keepS {wr W W' : World} {a : Addr} {v : Option Value} (hlt : a.block < wr.heap.size) (hb : Hid (Below W.heap.size W W')) (h : W.cell? a = v ∧ Below wr.heap.size wr W) : W'.cell? a = v ∧ Below wr.heap.size wr W' :=
  ⟨(hb.out.cell (Nat.lt_of_lt_of_le hlt h.2.size)).trans h.1, h.2.trans (hb.out.mono h.2.size)⟩
end Go.Proofs.YthdpojkeceoiiaaGreatDoor
end

section
/- The document's own numbers: Div. Conditions: at most 100000 fours of digits, a divisor above 0. -/
open Go.RowKit
set_option maxRecDepth 100000
namespace Go.Proofs.YthdpojkeceoiiaaGreatDoor
def RDivR (w : World) (q r : Nat) (e : Ending) (w' : World) : Prop :=
  ∃ A c A' c', e = .returned (.tuple #[.slice A (dq q) c, .slice A' (dq r) c']) ∧ Hid (RN w' w'.heap.size A c q) ∧ Hid (RN w' w'.heap.size A' c' r) ∧ Hid (Below w.heap.size w w')
theorem rn_nil (w : World) (B : Nat) (A : Option Addr) (c : Nat) : RN w B A c 0 := ⟨by rw [dq_zero]; exact Nat.zero_le _, by rw [digs_zero]; exact Rd.nil⟩
theorem slice_from (t e : TypeId) (i : TypeInfo) (ht : Tryz.prog.underlying t = some (.slice e)) (hi : Tryz.prog.info? e = some i) (hs : i.size = 1) (A : Option Addr) {n c k : Nat} (hk : k ≤ n) (W : World) :
    (Instr.sliceAt t (.slice A n c) (some (.int .i64 (k : Int))) none none).run Tryz.prog W = .ok (.slice (if c = k then A else A.map (·.add k)) (n - k) (c - k)) W := by
  have he : Tryz.prog.elem t = e := by simp [Program.elem, ht]
  have h2 : Tryz.prog.underlying t = some (.slice (Tryz.prog.elem t)) := by rw [he]; exact ht
  rw [run_sliceAt_slice W t _ _ _ _ h2, run_slice_l W t A n c h2 .i64 (k : Int) (by omega) (by omega), he]
  simp [sizeOf, typeInfo, hi, hs, sliced, Result.andThen]
/-- The row that append leaves, read as a list. -/
theorem row_own {w : World} {base n : Nat} {t : TypeId} {v : Value} {xs : List Value} {f : Nat → Value} {dd : List Nat} (h : w.ownsRow base t 1 v n xs) (hn : n = dd.length) (hx : xs = dd.map f) :
    ∃ A c, v = .slice A n c ∧ n ≤ c ∧ Rd f w w.heap.size A dd ∧ (∀ ad, A = some ad → v.ownBlock = some ad.block) := by
  subst hn; subst hx
  obtain ⟨A, c, rfl, h1, h2⟩ := row_rd h
  exact ⟨A, c, rfl, h1, h2, fun ad e => by subst e; rfl⟩
theorem RN.set {w : World} {B : Nat} {A : Option Addr} {c m g i : Nat} (h : RN w B A c m) (hg : ∀ ad, A = some ad → ad.block ≠ g) (u : Value) : RN (w.setCell ⟨g, i, none⟩ u) B A c m := by
  refine ⟨h.1, fun hn => ?_⟩
  obtain ⟨ad, e, hb, hx⟩ := h.2 hn
  refine ⟨ad, e, hb, fun j x hj => ?_⟩
  rw [World.cell?_setCell_other w ⟨g, i, none⟩ _ u (by intro e2; exact hg ad e (by rw [← block_add ad j, ← e2]))]
  exact hx j x hj
theorem dq_mul_le {n s : Nat} (hl : dq n ≤ 100000) (hs : s ≤ 9999) : dq (n * s) ≤ 1000000 := by
  have h1 : n < D4 ^ dq n := lt_pow_digs (b := D4) (by decide) n
  have h2 : n * s < D4 ^ (dq n + 1) := by
    rw [Nat.pow_succ]
    exact Nat.lt_of_le_of_lt (Nat.mul_le_mul_left n (show s ≤ D4 by rw [D4_eq]; omega)) (Nat.mul_lt_mul_of_pos_right h1 (by decide))
  have := dq_le h2
  omega
theorem dq_step {n r x : Nat} (hl : dq n ≤ 99999) (hr : r < n) (hx : x ≤ 9999) : dq (x + D4 * r) ≤ 100000 := by
  have h1 : n < D4 ^ dq n := lt_pow_digs (b := D4) (by decide) n
  have h2 : x + D4 * r < D4 ^ (dq n + 1) := by
    rw [Nat.pow_succ]
    generalize D4 ^ dq n = P at h1
    have h3 : (r + 1) * 10000 ≤ P * 10000 := Nat.mul_le_mul_right _ (by omega)
    rw [D4_eq]
    omega
  have := dq_le h2
  omega
end Go.Proofs.YthdpojkeceoiiaaGreatDoor
end

section
/- shiftLeft. Conditions: at most 100000 words, a shift of at most 31. -/
open Go.RowKit
set_option maxRecDepth 100000
namespace Go.Proofs.YthdpojkeceoiiaaGreatDoor
theorem W32_split {sh : Nat} (h : sh ≤ 31) : W32 = 2 ^ sh * 2 ^ (32 - sh) := by
  rw [← Nat.pow_add, show sh + (32 - sh) = 32 by omega]; rfl
theorem shl_lo {y sh : Nat} (h : sh ≤ 31) : y * 2 ^ sh % W32 = (y % 2 ^ (32 - sh)) * 2 ^ sh := by
  rw [W32_split h, Nat.mul_comm y, Nat.mul_mod_mul_left, Nat.mul_comm]
theorem shl_room {y sh hh : Nat} (h : sh ≤ 31) (hl : hh < 2 ^ sh) : hh + y * 2 ^ sh % W32 < W32 := by
  rw [shl_lo h]
  have h1 : y % 2 ^ (32 - sh) + 1 ≤ 2 ^ (32 - sh) := Nat.mod_lt _ (Nat.pow_pos (by decide))
  have h2 := Nat.mul_le_mul_right (2 ^ sh) h1
  rw [Nat.add_mul, Nat.one_mul, Nat.mul_comm (2 ^ (32 - sh)), ← W32_split h] at h2
  omega
theorem shl_hi {y sh : Nat} (hy : y < W32) : y * 2 ^ sh / W32 < 2 ^ sh := by
  rw [Nat.div_lt_iff_lt_mul (by decide), Nat.mul_comm (2 ^ sh)]
  exact Nat.mul_lt_mul_of_pos_right hy (Nat.pow_pos (by decide))
theorem shl_wrap {y sh : Nat} (hy : y < W32) (h : sh ≤ 31) : IntKind.u64.wrap ((y : Int) * 2 ^ sh) = ((y * 2 ^ sh : Nat) : Int) := by
  have h1 : y * 2 ^ sh < W32 * 2 ^ 31 := Nat.lt_of_lt_of_le (Nat.mul_lt_mul_of_pos_right hy (Nat.pow_pos (by decide))) (Nat.mul_le_mul_left _ (Nat.pow_le_pow_right (by decide) h))
  have h2 : W32 * 2 ^ 31 ≤ 18446744073709551615 := by decide
  rw [show ((y : Int) * 2 ^ sh) = ((y * 2 ^ sh : Nat) : Int) by rw [Int.natCast_mul, Int.natCast_pow]; rfl]
  exact u64_nat (by omega)
theorem shl_or {y sh hh : Nat} (h : sh ≤ 31) (hl : hh < 2 ^ sh) : bits .or .u32 (hh : Int) (((y * 2 ^ sh : Nat) : Int) % 4294967296) = ((hh + y * 2 ^ sh % W32 : Nat) : Int) := by
  have h0 := shl_room (y := y) h hl
  have h3 : y * 2 ^ sh % W32 < W32 := Nat.mod_lt _ (by decide)
  rw [lo32, u32_or_nat _ _ (by rw [W32_eq] at h0; omega) (by rw [W32_eq] at h3; exact h3), Nat.or_comm, shl_lo h, or_pow _ _ _ hl, Nat.add_comm]
theorem shl_math {P V hh T A y W s : Nat} (h : V + P * hh = A * s) (ht : T = y * s) : V + P * (hh + T % W) + P * W * (T / W) = (A + P * y) * s := by
  have e : P * (hh + T % W) + P * W * (T / W) = P * hh + P * T := by
    rw [Nat.mul_assoc, ← Nat.mul_add, Nat.add_assoc, Nat.mod_add_div, Nat.mul_add]
  rw [Nat.add_assoc, e, ← Nat.add_assoc, h, ht, Nat.add_mul, Nat.mul_assoc]
theorem shl_list {seg : List Nat} {i hh z a b : Nat} (h : seg.length = i) : ((seg ++ (hh :: 0 :: List.replicate z 0)).set i a).set (i + 1) b = (seg ++ [a]) ++ (b :: List.replicate z 0) := by
  rw [List.set_append, if_neg (by omega), h, Nat.sub_self, List.set_cons_zero, List.set_append, if_neg (by omega), h, show i + 1 - i = 1 by omega]
  simp
def ShlPost (w : World) (n sh v : Nat) (e : Ending) (w' : World) : Prop :=
  ∃ g R, e = .returned (.slice (some ⟨g, 0, none⟩) (n + 1) (n + 1)) ∧ Hid (w.heap.size ≤ g) ∧ Hid (Blk U32 73 w' g R) ∧ Hid (R.length = n + 1) ∧ Hid (Good32 R) ∧ Hid (val W32 R = v * 2 ^ sh) ∧ Hid (Below w.heap.size w w')
end Go.Proofs.YthdpojkeceoiiaaGreatDoor
end

section
/- shiftRight. Conditions: at most 100000 words, a shift of at most 31. -/
open Go.RowKit
set_option maxRecDepth 100000
namespace Go.Proofs.YthdpojkeceoiiaaGreatDoor
theorem W32_split' {s : Nat} (h : s ≤ 31) : W32 = 2 ^ (32 - s) * 2 ^ s := by rw [W32_split h, Nat.mul_comm]
theorem shr_wide {y s : Nat} (h : s ≤ 31) : y * 4294967296 / 2 ^ s = y * 2 ^ (32 - s) := by
  rw [show (4294967296 : Nat) = 2 ^ (32 - s) * 2 ^ s from W32_split' h, ← Nat.mul_assoc, Nat.mul_div_cancel _ (Nat.pow_pos (by decide))]
theorem shr_lo {y s : Nat} (h : s ≤ 31) : y * 2 ^ (32 - s) % W32 = (y % 2 ^ s) * 2 ^ (32 - s) := by
  rw [W32_split' h, Nat.mul_comm y, Nat.mul_mod_mul_left, Nat.mul_comm]
theorem shr_hi {y s : Nat} (h : s ≤ 31) : y * 2 ^ (32 - s) / W32 = y / 2 ^ s := by
  rw [W32_split' h, Nat.mul_comm y, Nat.mul_div_mul_left _ _ (Nat.pow_pos (by decide))]
theorem shr_top {y s : Nat} (hy : y < W32) (h : s ≤ 31) : y / 2 ^ s < 2 ^ (32 - s) := by
  rw [Nat.div_lt_iff_lt_mul (Nat.pow_pos (by decide)), ← W32_split' h]; exact hy
theorem shr_room {y s t : Nat} (h : s ≤ 31) (ht : t < 2 ^ (32 - s)) : t + (y % 2 ^ s) * 2 ^ (32 - s) < W32 := by
  have h1 : y % 2 ^ s + 1 ≤ 2 ^ s := Nat.mod_lt _ (Nat.pow_pos (by decide))
  have h2 := Nat.mul_le_mul_right (2 ^ (32 - s)) h1
  rw [Nat.add_mul, Nat.one_mul, ← W32_split h] at h2
  omega
theorem shr_or {y s t : Nat} (h : s ≤ 31) (ht : t < 2 ^ (32 - s)) : bits .or .u32 (t : Int) (((y * 2 ^ (32 - s) : Nat) : Int) % 4294967296) = ((t + (y % 2 ^ s) * 2 ^ (32 - s) : Nat) : Int) := by
  have h0 := shr_room (y := y) h ht
  have h3 : y * 2 ^ (32 - s) % W32 < W32 := Nat.mod_lt _ (by decide)
  rw [lo32, u32_or_nat _ _ (by rw [W32_eq] at h0; omega) (by rw [W32_eq] at h3; exact h3), Nat.or_comm, shr_lo h, or_pow _ _ _ ht, Nat.add_comm]
theorem shr_wrap {y s : Nat} (h : s ≤ 31) : ((y : Int) * 4294967296) / 2 ^ s = ((y * 2 ^ (32 - s) : Nat) : Int) := by
  rw [← shr_wide h, Int.natCast_ediv, Int.natCast_mul, Int.natCast_pow]; rfl
theorem shr_math {V P p A y s : Nat} (hs : s ≤ 31) (h : V + P * p = A / 2 ^ s) : V + P * (p + (y % 2 ^ s) * 2 ^ (32 - s)) + P * W32 * (y / 2 ^ s) = (A + P * W32 * y) / 2 ^ s := by
  have e1 : P * W32 * y = 2 ^ s * (P * 2 ^ (32 - s) * y) := by
    rw [W32_split hs]
    simp only [Nat.mul_assoc, Nat.mul_left_comm]
  rw [e1, Nat.add_mul_div_left _ _ (Nat.pow_pos (by decide)), ← h, W32_split hs]
  have e2 : P * 2 ^ (32 - s) * y = P * (y % 2 ^ s * 2 ^ (32 - s)) + P * (2 ^ s * 2 ^ (32 - s)) * (y / 2 ^ s) := by
    have e3 := Nat.mod_add_div y (2 ^ s)
    have e4 : P * (2 ^ s * 2 ^ (32 - s)) * (y / 2 ^ s) = P * 2 ^ (32 - s) * (2 ^ s * (y / 2 ^ s)) := by
      simp only [Nat.mul_assoc, Nat.mul_left_comm]
    rw [e4, Nat.mul_comm (y % 2 ^ s), ← Nat.mul_assoc, ← Nat.mul_add, e3]
  rw [e2, Nat.mul_add]
  omega
theorem shr_word {y s : Nat} (hy : y < W32) (hs : s ≤ 31) : ((y * 2 ^ (32 - s) : Nat) : Int) / 4294967296 % 4294967296 = ((y / 2 ^ s : Nat) : Int) := by
  have h3 : y * 2 ^ (32 - s) / W32 = y / 2 ^ s := shr_hi hs
  have h4 : y / 2 ^ s < W32 := Nat.lt_of_le_of_lt (Nat.div_le_self _ _) hy
  rw [hi32, h3]
  obtain ⟨q, hq⟩ : ∃ q, q = y / 2 ^ s := ⟨_, rfl⟩
  rw [← hq, W32_eq] at h4
  rw [← hq]
  omega
theorem shr_list {seg : List Nat} {i z a b c d : Nat} (h : seg.length = i) : (((seg ++ [c]) ++ (d :: List.replicate z 0)).set (i + 1) a).set i b = ((seg ++ [b]) ++ [a]) ++ List.replicate z 0 := by
  simp [List.set_append, h]
theorem shr_snoc {seg : List Nat} {j : Nat} (h : seg.length = j + 1) : ∃ S p, seg = S ++ [p] ∧ S.length = j := by
  have hne : seg ≠ [] := by intro e; rw [e] at h; cases h
  refine ⟨seg.dropLast, seg.getLast hne, (List.dropLast_concat_getLast hne).symm, ?_⟩
  rw [List.length_dropLast, h]; rfl
def ShrPost (w : World) (n sh v : Nat) (e : Ending) (w' : World) : Prop :=
  ∃ g R, e = .returned (.slice (some ⟨g, 0, none⟩) n n) ∧ Hid (w.heap.size ≤ g) ∧ Hid (Blk U32 73 w' g R) ∧ Hid (R.length = n) ∧ Hid (Good32 R) ∧ Hid (val W32 R = v / 2 ^ sh) ∧ Hid (Below w.heap.size w w')
end Go.Proofs.YthdpojkeceoiiaaGreatDoor
end

section
/- subMultiple: words in place. Conditions: at most 100000 words. -/
open Go.RowKit
set_option maxRecDepth 100000
namespace Go.Proofs.YthdpojkeceoiiaaGreatDoor
def SubMulPost (w : World) (g o k f t : Nat) (l ys : List Nat) (e : Ending) (w' : World) : Prop :=
  ∃ (seg : List Nat) (c : Nat), e = .returned (.bool (decide (t < c))) ∧ Hid (seg.length = k) ∧ Hid (Good32 seg) ∧ Hid (c ≤ W32) ∧ Hid (val W32 seg + f * val W32 ys = val W32 ((l.drop o).take k) + W32 ^ k * c) ∧
    Blk U32 73 w' g (l.take o ++ (seg ++ l.drop (o + k))) ∧ w.grownBy w' (some g)
theorem submul_prod {y f cr : Nat} (hy : y < W32) (hf : f < W32) (hc : cr ≤ W32) : cr + y * f ≤ 18446744069414584321 := by
  have h := Nat.mul_le_mul (Nat.le_sub_one_of_lt hy) (Nat.le_sub_one_of_lt hf)
  rw [W32_eq] at *
  omega
theorem submul_wrap {y f cr : Nat} (hy : y < W32) (hf : f < W32) (hc : cr ≤ W32) :
    IntKind.u64.wrap ((cr : Int) + IntKind.u64.wrap (IntKind.u64.wrap (y : Int) * IntKind.u64.wrap (f : Int))) = ((cr + y * f : Nat) : Int) := by
  have h1 := submul_prod hy hf hc
  rw [u64_word hy, u64_word hf, ← Int.natCast_mul, u64_nat (by omega), ← Int.natCast_add, u64_nat (by omega)]
theorem submul_math {P V VL VY cr y f s s' T r q b W : Nat} (h : V + f * VY = VL + P * cr) (hT : T = cr + y * f) (hq : r + W * q = T) (hs : s' + r = s + W * b) : V + P * s' + f * (VY + P * y) = VL + P * s + P * W * (q + b) := by
  have e1 : P * s' + P * T = P * s + P * W * (q + b) := by
    rw [← Nat.mul_add, show s' + T = s + W * (q + b) by rw [Nat.mul_add]; omega, Nat.mul_add, Nat.mul_assoc]
  have e2 : P * T = P * cr + P * (y * f) := by rw [hT, Nat.mul_add]
  have e3 : f * (P * y) = P * (y * f) := by rw [Nat.mul_comm y f, Nat.mul_left_comm]
  rw [Nat.mul_add f, e3]; omega
theorem submul_yes {T s : Nat} (hT : T ≤ 18446744069414584321) (hs : s < W32) (h : (s : Int) < (T : Int) % 4294967296) :
    ∃ s' b, s' < W32 ∧ T / W32 + b ≤ W32 ∧ s' + T % W32 = s + W32 * b ∧ IntKind.u64.wrap ((T : Int) / 4294967296 + 1) = ((T / W32 + b : Nat) : Int) ∧ ((s : Int) - (T : Int)) % 4294967296 = (s' : Int) := by
  rw [W32_eq] at *
  refine ⟨s + 4294967296 - T % 4294967296, 1, by omega, by omega, by omega, ?_, by omega⟩
  rw [show (T : Int) / 4294967296 + 1 = ((T / 4294967296 + 1 : Nat) : Int) by omega]
  exact u64_nat (by omega)
theorem submul_no {T s : Nat} (hT : T ≤ 18446744069414584321) (hs : s < W32) (h : ¬ (s : Int) < (T : Int) % 4294967296) :
    ∃ s' b, s' < W32 ∧ T / W32 + b ≤ W32 ∧ s' + T % W32 = s + W32 * b ∧ (T : Int) / 4294967296 = ((T / W32 + b : Nat) : Int) ∧ ((s : Int) - (T : Int)) % 4294967296 = (s' : Int) := by
  rw [W32_eq] at *
  exact ⟨s - T % 4294967296, 0, by omega, by omega, by omega, by omega, by omega⟩
end Go.Proofs.YthdpojkeceoiiaaGreatDoor
end
