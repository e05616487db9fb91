/- Each theorem here says its own conditions. -/
import Derived.Test.YtfflmmbhpchloaaGreatDoorGTkwc19
import Derived.DeepKeys4
import Derived.StillTailTactics
set_option maxRecDepth 100000
set_option maxHeartbeats 16000000
section
namespace Go.Proofs.YtfflmmbhpchloaaGreatDoor.V
theorem vall_range : ∀ (xs ys : List Int), xs.length = ys.length → ((List.range xs.length).all fun i => xs.getD i 0 == ys.getD i 0) = (xs == ys)
 | [], [], _ => rfl
 | x :: xs, y :: ys, h => by
   have ih := vall_range xs ys (by simpa using h)
   rw [List.length_cons, List.range_succ_eq_map, List.all_cons, List.all_map]
   simp only [List.getD_cons_zero, Function.comp_def, List.getD_cons_succ, ih]
   simp [List.cons_beq_cons]
 | [], _ :: _, h => by simp at h
 | _ :: _, [], h => by simp at h
section
variable {P : Program} (w : World)
theorem vequalIn (d : Nat) (t e : TypeId) (n : Nat) (ht : P.underlying t = some (.array n e)) (he : P.underlying e = some (.int .i64)) (hsz : ∀ w, (sizeOf e).run P w = .ok 1 w)
 (xs ys : List Int) (hx : xs.length = n) (hy : ys.length = n) :
 (Op.equalIn (d + 2) t (.agg (xs.map (Value.int .i64)).toArray) (.agg (ys.map (Value.int .i64)).toArray)).run P w = .ok (xs == ys) w := by
 rw [← vall_range xs ys (hx.trans hy.symm), hx, List.range_eq_range', Op.equalIn]
 simp only [Sem.run_bind, run_underlying ht, Result.andThen_ok, hsz, Std.Legacy.Range.forIn_eq_forIn_range', Std.Legacy.Range.size, Nat.sub_zero, Nat.add_sub_cancel, Nat.div_one]
 have hl : ∀ i ∈ List.range' 0 n 1, i < n := fun i hi => by simpa using (List.mem_range'_1.1 hi).2
 generalize List.range' 0 n 1 = l at hl ⊢
 induction l with
 | nil => simp
 | cons i l ih =>
   have hi : i < n := hl i (by simp)
   have px : (part e (xs.map (Value.int .i64)).toArray (i * 1)).run P w = .ok (.int .i64 (xs.getD i 0)) w := by
    simp [part, isAgg, run_underlying he, List.getD, List.getElem?_eq_getElem (show i < xs.length by omega)]
   have py : (part e (ys.map (Value.int .i64)).toArray (i * 1)).run P w = .ok (.int .i64 (ys.getD i 0)) w := by
    simp [part, isAgg, run_underlying he, List.getD, List.getElem?_eq_getElem (show i < ys.length by omega)]
   have pe : (Op.equalIn (d + 1) e (.int .i64 (xs.getD i 0)) (.int .i64 (ys.getD i 0))).run P w = .ok (xs.getD i 0 == ys.getD i 0) w := run_equalIn_int w d e .i64 .i64 _ _ he
   simp only [List.forIn_cons, Sem.run_bind, px, py, pe, Result.andThen_ok, List.all_cons]
   cases hb : (xs.getD i 0 == ys.getD i 0)
   ·simp
   ·simp only [Bool.not_true, Bool.false_eq_true, if_false, Sem.run_pure, Result.andThen_ok, Bool.true_and]
    exact ih fun j hj => hl j (by simp [hj])
theorem veql (t e : TypeId) (n : Nat) (ht : P.underlying t = some (.array n e)) (he : P.underlying e = some (.int .i64)) (hsz : ∀ w, (sizeOf e).run P w = .ok 1 w)
 (xs ys : List Int) (hx : xs.length = n) (hy : ys.length = n) :
 (binOp .eql t (.agg (xs.map (Value.int .i64)).toArray) (.agg (ys.map (Value.int .i64)).toArray)).run P w = .ok (.bool (xs == ys)) w := by
 rw [run_eql_struct, vequalIn w 9998 t e n ht he hsz xs ys hx hy]
 rfl
end
end Go.Proofs.YtfflmmbhpchloaaGreatDoor.V
end
section
open Go.RowKit
namespace Go.Proofs.YtfflmmbhpchloaaGreatDoor.V
theorem vsize (w : World) : (sizeOf 3).run Tryz.prog w = .ok 1 w := by kernel_rfl
theorem vdec (a b : V8) : (a.l == b.l) = decide (a = b) := by
 rw [Bool.eq_iff_iff, beq_iff_eq, decide_eq_true_iff]
 exact ⟨V8.ext_l, fun h => by rw [h]⟩
theorem veq_v (a b : V8) (w : World) : (binOp .eql 36 a.v b.v).run Tryz.prog w = .ok (.bool (decide (a = b))) w := by
 have h := veql (P := Tryz.prog) w 36 3 8 Tryz.underlying36 Tryz.underlying3 vsize a.l b.l rfl rfl
 rw [vdec] at h
 exact h
theorem vset_at' {W : World} {p k : Nat} {s a : V8} {x : Int} (h : At W p (V8.mix s a k).c) (hk : k < 8) (hx : x = s.at_ k) : At (W.setCell ⟨p, k, none⟩ (.int .i64 x)) p (V8.mix s a (k + 1)).c := by
 have h1 := h.put (i := k) hk (.int .i64 x)
 rw [hx] at h1 ⊢
 rw [V8.c_l, ← List.map_set, V8.mix_set hk] at h1
 exact h1
theorem vmul_in {x c : Int} (hx : -100 ≤ x ∧ x ≤ 100) (hc : -100 ≤ c ∧ c ≤ 100) : -9223372036854775808 ≤ x * c ∧ x * c ≤ 9223372036854775807 := by
 have h1 : x.natAbs ≤ 100 := by omega
 have h2 : c.natAbs ≤ 100 := by omega
 have h3 : x.natAbs * c.natAbs ≤ 100 * 100 := Nat.mul_le_mul h1 h2
 rw [← Int.natAbs_mul] at h3
 omega
theorem times_no1 {a : V8} {k : Int} (h : a.ok = false) (w : World) : Calls Tryz.prog 33 #[a.v, .int .i64 k] w (RetVV w V8.z false) := by
 have C1 := vhide (isValid_h h)
 clear h
 go_enter Tryz.func33, Tryz.ntmps33
 go_wp2_with (first | (go_at_call 60; (with_reducible refine (C1.out _).mono ?_); rintro e w1 ⟨rfl, hb⟩; have HB : Bel w w1 := ((((Bel.refl w).al _).al _)).up hb; have HA := At.up (((at_new0 w a.c _).al _)) hb; have HP := At.up (at_new1 w _ V8.z.c _) hb; replace HB := vhide HB; clear hb; obtain ⟨a0, a1, a2, a3, a4, a5, a6, a7⟩ := HA.v8; obtain ⟨af0, af1, af2, af3, af4, af5, af6, af7⟩ := HA.f8; obtain ⟨p0, p1, p2, p3, p4, p5, p6, p7⟩ := HP.v8; obtain ⟨pf0, pf1, pf2, pf3, pf4, pf5, pf6, pf7⟩ := HP.f8) | fail)
 refine vname_end ?_
 intro W4 hW4
 have HF : At W4 (w.heap.size + 1) V8.z.c := by rw [hW4]; exact HP.put8
 have BF : Bel w W4 := by rw [hW4]; exact Bel.put8 HB (by omega)
 clear hW4
 obtain ⟨r0, r1, r2, r3, r4, r5, r6, r7⟩ := HF.v8
 refine bodyPost_ret (v := .tuple #[V8.z.v, .bool false]) (by simp [results, Tryz.results33, go_sem, r0, r1, r2, r3, r4, r5, r6, r7]) rfl ⟨rfl, BF⟩
theorem times_no2 {a : V8} {k : Int} {y : Bool} (h1 : a.ok = true) (h2 : fitB k = false) (h3 : decide (a = V8.z) = y) (w : World) : Calls Tryz.prog 33 #[a.v, .int .i64 k] w (RetVV w V8.z y) := by
 have C1 := vhide (isValid_h h1)
 have C2 := vhide (fits_h h2)
 have hq := veq_v a V8.z
 rw [h3] at hq
 clear h1 h2 h3
 go_enter Tryz.func33, Tryz.ntmps33
 go_wp2_with (first | (go_at_call 60; (with_reducible refine (C1.out _).mono ?_); rintro e w1 ⟨rfl, hb⟩; have HB : Bel w w1 := ((((Bel.refl w).al _).al _)).up hb; have HA := At.up (((at_new0 w a.c _).al _)) hb; have HP := At.up (at_new1 w _ V8.z.c _) hb; replace HB := vhide HB; clear hb; obtain ⟨a0, a1, a2, a3, a4, a5, a6, a7⟩ := HA.v8; obtain ⟨af0, af1, af2, af3, af4, af5, af6, af7⟩ := HA.f8; obtain ⟨p0, p1, p2, p3, p4, p5, p6, p7⟩ := HP.v8; obtain ⟨pf0, pf1, pf2, pf3, pf4, pf5, pf6, pf7⟩ := HP.f8) | (go_at_call 61; (with_reducible refine (C2.out _).mono ?_); rintro e w2 ⟨rfl, rfl⟩) | fail)
 go_region
 go_wp2
 refine vname_end ?_
 intro W4 hW4
 have HF : At W4 (w.heap.size + 1) V8.z.c := by rw [hW4]; exact by first | exact HP.put8.dr | exact (HP.dr).put8
 have BF : Bel w W4 := by rw [hW4]; exact by first | exact (Bel.put8 HB (by omega)).dr | exact Bel.put8 (Bel.dr HB) (by omega)
 clear hW4
 obtain ⟨r0, r1, r2, r3, r4, r5, r6, r7⟩ := HF.v8
 refine bodyPost_ret (v := .tuple #[V8.z.v, .bool y]) (by simp [results, Tryz.results33, go_sem, r0, r1, r2, r3, r4, r5, r6, r7]) rfl ⟨rfl, BF⟩
theorem times_yes {a r : V8} {c : Int} {y : Bool} (h1 : a.ok = true) (h2 : fitB c = true) (hc : ∀ V, Calls Tryz.prog 62 #[(a.mul c).v] V (RetVV V r y)) (w : World) : Calls Tryz.prog 33 #[a.v, .int .i64 c] w (RetVV w r y) := by
 have C1 := vhide (isValid_h h1)
 have C2 := vhide (fits_h h2)
 have C3 := vhide hc
 have K1 := vhide (V8.ok_iff.1 h1)
 have K2 := fitB_iff.1 h2
 clear h1 h2 hc
 go_enter Tryz.func33, Tryz.ntmps33
 go_wp2_with (first | (go_at_call 60; (with_reducible refine (C1.out _).mono ?_); rintro e w1 ⟨rfl, hb⟩; have HB : Bel w w1 := ((((Bel.refl w).al _).al _)).up hb; have HA := At.up (((at_new0 w a.c _).al _)) hb; have HP := At.up (at_new1 w _ V8.z.c _) hb; replace HB := vhide HB; clear hb; obtain ⟨a0, a1, a2, a3, a4, a5, a6, a7⟩ := HA.v8; obtain ⟨af0, af1, af2, af3, af4, af5, af6, af7⟩ := HA.f8; obtain ⟨p0, p1, p2, p3, p4, p5, p6, p7⟩ := HP.v8; obtain ⟨pf0, pf1, pf2, pf3, pf4, pf5, pf6, pf7⟩ := HP.f8) | (go_at_call 61; (with_reducible refine (C2.out _).mono ?_); rintro e w2 ⟨rfl, rfl⟩) | fail)
 go_loopw [18] (fun iv wr => ∃ k : Nat, k ≤ 8 ∧ iv = .int .i64 (k : Int) ∧ Hid (At wr w.heap.size (V8.mix (a.mul c) a k).c) ∧ Hid (At wr (w.heap.size + 1) V8.z.c) ∧ Hid (Below w.heap.size w wr)) (fun iv _ => 8 - (intOf iv).toNat)
 case atStart => exact ⟨0, by omega, rfl, by rw [V8.mix_zero]; exact HA, HP, HB⟩
 case round =>
  obtain ⟨k, hk, rfl, GA, GP, GB⟩ := hrel
  clear HA HP HB a0 a1 a2 a3 a4 a5 a6 a7 af0 af1 af2 af3 af4 af5 af6 af7 p0 p1 p2 p3 p4 p5 p6 p7 pf0 pf1 pf2 pf3 pf4 pf5 pf6 pf7
  by_cases hlt : k < 8
  ·have e1 := V8.mix_at (a := a.mul c) (b := a) (k := k) hlt
   rw [if_neg (by omega)] at e1
   obtain ⟨x, hx⟩ : ∃ x, x = a.at_ k := ⟨_, rfl⟩
   have g1 := (GA.out).ci (i := k) (v := .int .i64 x) (by rw [V8.c_l, List.getElem?_map, V8.l_get hlt, e1, hx]; rfl)
   have f1 := (GA.out).fi (i := k) (v := .int .i64 x) (by rw [V8.c_l, List.getElem?_map, V8.l_get hlt, e1, hx]; rfl)
   have b1 := K1.out k hlt
   rw [← hx] at b1
   have w1' : IntKind.i64.wrap (x * c) = x * c := IntWalk.i64_in _ (vmul_in b1 K2)
   have HX := vhide hx
   clear e1 hx
   go_wp2
   go_roundw
   case rel => exact ⟨k + 1, by omega, by go_num, vset_at' GA.out hlt (by rw [HX.out, V8.at_mul hlt]), GP.out.far (by omega) _, (GB.out).setCell (by simp) _⟩
   case measure => simp [intOf]; omega
  ·obtain rfl : k = 8 := by omega
   rw [V8.mix_all] at GA
   have HA := GA.out
   have HP := GP.out
   have HB := GB
   clear GA GP GB
   obtain ⟨a0, a1, a2, a3, a4, a5, a6, a7⟩ := HA.v8
   go_wp2_with (first | (go_at_call 62; (with_reducible refine (C3.out _).mono ?_); rintro e w3 ⟨rfl, hb⟩; clear a0 a1 a2 a3 a4 a5 a6 a7; replace HB := (Bel.up HB hb).hid; replace HP := HP.up hb; clear hb; obtain ⟨p0, p1, p2, p3, p4, p5, p6, p7⟩ := HP.v8; obtain ⟨pf0, pf1, pf2, pf3, pf4, pf5, pf6, pf7⟩ := HP.f8) | fail)
   refine vname_end ?_
   intro W4 hW4
   have HF : At W4 (w.heap.size + 1) r.c := by rw [hW4]; exact HP.put8
   have BF : Bel w W4 := by rw [hW4]; exact Bel.put8 HB (by omega)
   clear hW4
   obtain ⟨r0, r1, r2, r3, r4, r5, r6, r7⟩ := HF.v8
   refine bodyPost_ret (v := .tuple #[r.v, .bool y]) (by simp [results, Tryz.results33, go_sem, r0, r1, r2, r3, r4, r5, r6, r7]) rfl ⟨rfl, BF⟩
theorem times_h (a : V8) (k : Int) (w : World) : Calls Tryz.prog 33 #[a.v, .int .i64 k] w (RetVV w (V8.mulR a k) (V8.mulB a k)) := by
 unfold V8.mulR V8.mulB
 cases h1 : a.ok with
 | false => exact times_no1 h1 w
 | true =>
   cases h2 : fitB k with
   | false =>
     have h := times_no2 h1 h2 (y := decide (a = V8.z)) rfl w
     simpa using h
   | true =>
     cases h3 : (a.mul k).ok with
     | false =>
       have h := times_yes h1 h2 (ifValid_no h3) w
       simpa using h
     | true =>
       have h := times_yes h1 h2 (ifValid_yes h3) w
       simpa using h
theorem add_h (a b : V8) (w : World) : Calls Tryz.prog 34 #[a.v, b.v] w (RetVV w (V8.addR a b) (V8.addB a b)) := by
 unfold V8.addR V8.addB
 cases h1 : a.ok with
 | false => exact add_no1 h1 w
 | true =>
   cases h2 : b.ok with
   | false => exact add_no2 h1 h2 w
   | true =>
     cases h3 : (a.add b).ok with
     | false =>
       have h := add_yes h1 h2 (ifValid_no h3) w
       simpa using h
     | true =>
       have h := add_yes h1 h2 (ifValid_yes h3) w
       simpa using h
abbrev V8.one : V8 := ⟨0, 1, 0, 0, 0, 0, 0, 0⟩
theorem vown_form {w : World} {base : Nat} {e : TypeId} {size : Nat} {v : Value} {n : Nat} {xs : List Value} (h : w.ownsRow base e size v (n + 1) xs) : ∃ g cap, v = .slice (some ⟨g, 0, none⟩) (n + 1) cap := by
 rcases h.2 with ⟨_, h0⟩ | ⟨g, cap, _, h0, _⟩
 ·omega
 ·exact ⟨g, cap, h0⟩
theorem vown_up {w w' : World} {base : Nat} {e : TypeId} {size : Nat} {v : Value} {n : Nat} {xs : List Value} (h : w.ownsRow base e size v n xs) (hb : Hid (Below w.heap.size w w')) : w'.ownsRow base e size v n xs :=
 h.kept (row := none) ⟨hb.out.os, hb.out.tape, hb.out.output, hb.out.size, fun k hk _ => hb.out.block k hk⟩ (by cases v.ownBlock <;> simp)
theorem vinfoStr : (Tryz.prog.info? 9).map (fun i => (i.zero, i.size, i.bytes)) = some (some (.string ByteArray.empty), 1, 16) := by kernel_rfl
theorem vlaidOut : laidOutB Tryz.prog = true := by kernel_rfl
theorem vkeyed : Go.Maps.Keyed Tryz.prog 36 :=
 Go.Maps.Keyed.of_law (deep_law_laid vlaidOut (m := 2) (by omega) (of_decide_eq_true (by kernel_rfl)) (by kernel_rfl) (by rw [Tryz.underlying36]))
def V8.wf (a : V8) : Prop := ∀ k, k < 8 → (Lit.int .i64 (a.at_ k)).wf = true
def vlit (a : V8) : Lit := .string (keyBytes [.int .i64 a.x0, .int .i64 a.x1, .int .i64 a.x2, .int .i64 a.x3, .int .i64 a.x4, .int .i64 a.x5, .int .i64 a.x6, .int .i64 a.x7])
theorem vlits (a : V8) (h : a.wf) : Tryz.prog.keyLits (Tryz.prog.types.size + 1) 36 a.v.cells.toList = some [.int .i64 a.x0, .int .i64 a.x1, .int .i64 a.x2, .int .i64 a.x3, .int .i64 a.x4, .int .i64 a.x5, .int .i64 a.x6, .int .i64 a.x7] := by
 have hs : ∃ m, Tryz.prog.types.size = m + 1 := ⟨Tryz.prog.types.size - 1, by kernel_rfl⟩
 obtain ⟨m, hm⟩ := hs
 have c1 : Tryz.prog.cellsOf 36 = 8 := by kernel_rfl
 have c2 : Tryz.prog.cellsOf 3 = 1 := by kernel_rfl
 have w0 := h 0 (by decide); have w1 := h 1 (by decide); have w2 := h 2 (by decide); have w3 := h 3 (by decide)
 have w4 := h 4 (by decide); have w5 := h 5 (by decide); have w6 := h 6 (by decide); have w7 := h 7 (by decide)
 simp only [V8.at_, V8.l, List.getD_cons_zero, List.getD_cons_succ] at w0 w1 w2 w3 w4 w5 w6 w7
 rw [hm]
 simp [Program.keyLits, Value.cells, Tryz.underlying36, Tryz.underlying3, c1, c2, show List.range 8 = [0, 1, 2, 3, 4, 5, 6, 7] from rfl, w0, w1, w2, w3, w4, w5, w6, w7]
theorem vkeyOf (a : V8) (h : a.wf) : keyOf Tryz.prog 36 a.v = some (vlit a) := by
 have hf : (V8.v a).formed Tryz.prog 36 = true := by
  have c1 : Tryz.prog.cellsOf 36 = 8 := by kernel_rfl
  simp [Value.formed, Tryz.underlying36, c1]
 have hk : Tryz.prog.keyType 36 = true := by kernel_rfl
 unfold keyOf
 rw [Tryz.underlying36]
 simp only [hk, hf, Bool.and_self, if_true]
 rw [vlits a h]
 rfl
theorem vlit_inj {a b : V8} (ha : a.wf) (hb : b.wf) (h : vlit a = vlit b) : a = b := by
 have h1 := vkeyed.inj (vkeyOf a ha) (h ▸ vkeyOf b hb)
 refine V8.ext_l ?_
 injection h1 with h1
 injection h1 with h1
 simp at h1
 simp [V8.l, h1]
theorem visKey (a : V8) (h : a.wf) : WideAt.IsKeyLit (vlit a) := vkeyed.key (vkeyOf a h)
theorem vzero (w : World) : (zeroValue 3).run Tryz.prog w = .ok (.int .i64 0) w := by kernel_rfl
def MapIs (w : World) (b : Nat) (vs : List V8) : Prop := ∃ D : DataW Unit, w.ownsMap Tryz.prog 36 (plainElem Tryz.prog 3) b vs.length D ∧ Maps.IsMap D ∧
 ∀ a : V8, a.wf → (Maps.has D (vlit a) = decide (a ∈ vs)) ∧ ∀ i : Nat, vs[i]? = some a → D.atKey (vlit a) (.lit (.int .i64 0)) = .lit (.int .i64 (i : Int))
theorem mapIs_new (w : World) : MapIs (w.alloc (.map #[] 0)) w.heap.size [] :=
 ⟨.map [], World.ownsMap_made _ _ _ _, Maps.isMap_empty, fun a _ => ⟨rfl, fun i hi => by simp at hi⟩⟩
theorem MapIs.look {w : World} {b : Nat} {vs : List V8} {a : V8} (h : MapIs w b vs) (ha : a.wf) :
 ∃ c : Int, (∀ n, (Instr.lookup 138 (.map (some b)) a.v true).run Tryz.prog (w.drewN n) = .ok (.tuple #[.int .i64 c, .bool (decide (a ∈ vs))]) (w.drewN n)) ∧ ∀ i : Nat, vs[i]? = some a → c = i := by
 obtain ⟨D, h1, _, h3⟩ := h
 obtain ⟨hh, hi⟩ := h3 a ha
 obtain ⟨c, _, hc, _⟩ := h1.lookup_int vkeyed Tryz.underlying138 Tryz.underlying3 (vzero _) (vkeyOf a ha)
 refine ⟨c, fun n => ?_, fun i h5 => ?_⟩
 ·have hd : (w.drewN n).ownsMap Tryz.prog 36 (plainElem Tryz.prog 3) b vs.length D := h1
  obtain ⟨v, ps, hrun, hv⟩ := hd.look_ok vkeyed Tryz.underlying138 (vzero _) (plainElem_int Tryz.underlying3 (by decide)) (vkeyOf a ha)
  rw [hc] at hv
  obtain ⟨c', rfl, hc', _⟩ := plainElem_int_inv Tryz.underlying3 hv
  simp only [Prod.mk.injEq, DataW.lit.injEq, Lit.int.injEq, true_and] at hc'
  rw [hrun, hh, hc'.1]
 ·rw [hi i h5] at hc
  simp at hc
  exact hc.symm
theorem MapIs.put {w : World} {b : Nat} {vs : List V8} {a : V8} (h : MapIs w b vs) (ha : a.wf) (hn : a ∉ vs) (hl : vs.length ≤ 1000000) :
 ∃ w', (Instr.mapUpdate 138 (.map (some b)) a.v (.int .i64 (vs.length : Int))).run Tryz.prog w = .ok () w' ∧ MapIs w' b (vs ++ [a]) ∧ w.grownBy w' (some b) := by
 obtain ⟨D, h1, h2, h3⟩ := h
 obtain ⟨w', hr, ho, hg⟩ := h1.update vkeyed Tryz.underlying138 (by unfold maxLen; omega) (vkeyOf a ha) (plainElem_int Tryz.underlying3 (a := (vs.length : Int)) (WalkArith.wf_i64 (by omega)))
 refine ⟨w', hr, ⟨_, by simpa using ho, h2.put _ _, fun c hc => ?_⟩, hg⟩
 by_cases e : c = a
 ·subst e
  refine ⟨by rw [Maps.has_put_same h2 (visKey c hc)]; simp, fun i hi => ?_⟩
  rw [Maps.atKey_put_same h2 (visKey c hc)]
  have hi2 : i = vs.length := by
   rcases Nat.lt_trichotomy i vs.length with h5 | h5 | h5
   ·rw [List.getElem?_append_left h5] at hi
    exact absurd (List.mem_of_getElem? hi) hn
   ·exact h5
   ·rw [List.getElem?_eq_none (by simp; omega)] at hi; cases hi
  rw [hi2]
 ·have hne : vlit c ≠ vlit a := fun h5 => e (vlit_inj hc ha h5)
  refine ⟨by rw [Maps.has_put_other hne, (h3 c hc).1]; simp [e], fun i hi => ?_⟩
  rw [Maps.atKey_put_other hne]
  refine (h3 c hc).2 i ?_
  rcases Nat.lt_or_ge i vs.length with h5 | h5
  ·rwa [List.getElem?_append_left h5] at hi
  ·rw [List.getElem?_append_right h5] at hi
   cases hk : i - vs.length with
   | zero => rw [hk] at hi; simp at hi; exact absurd hi.symm e
   | succ k => rw [hk] at hi; simp at hi
theorem MapIs.keep {w w' : World} {b : Nat} {vs : List V8} (h : MapIs w b vs) (hb : w'.heap[b]? = w.heap[b]?) : MapIs w' b vs := by
 obtain ⟨D, ⟨es, clock, h1, F, hs, hD⟩, h2, h3⟩ := h
 exact ⟨D, ⟨es, clock, hb.trans h1, F, hs, hD⟩, h2, h3⟩
theorem MapIs.lt {w : World} {b : Nat} {vs : List V8} (h : MapIs w b vs) : b < w.heap.size := by
 obtain ⟨D, h1, _⟩ := h; exact h1.lt
structure Nms (base : Nat) (W : World) (p b : Nat) (A : Option Addr) (cp n : Nat) (vs : List V8) (xs : List ByteArray) : Prop where
 blk : W.heap[p]? = some (.cells #[.slice A n cp, .map (some b)] 140 (0, 0))
 hp : base ≤ p
 hb : base ≤ b
 own : W.ownsRow base 9 1 (.slice A n cp) n (xs.map Value.string)
 map : MapIs W b vs
 len : vs.length = n
 nil : n = 0 → A = none ∧ cp = 0
structure KeepT (base : Nat) (W W' : World) : Prop where
 bel : Below base W W'
 oth : ∀ (g : Nat) (cs : Array Value) (t : TypeId) (fr : Nat × Nat), W.heap[g]? = some (.cells cs t fr) → t ≠ 9 → t ≠ 140 → W'.heap[g]? = some (.cells cs t fr)
section
variable {base p b cp n : Nat} {A : Option Addr} {vs : List V8} {xs : List ByteArray} {W W' : World}
theorem Nms.lt (h : Nms base W p b A cp n vs xs) : p < W.heap.size := (Array.getElem?_eq_some_iff.1 h.blk).1
theorem Nms.up (h : Nms base W p b A cp n vs xs) (hb : Hid (Below W.heap.size W W')) : Nms base W' p b A cp n vs xs :=
 ⟨(hb.out.block p h.lt).trans h.blk, h.hp, h.hb, vown_up h.own hb, h.map.keep (hb.out.block b h.map.lt), h.len, h.nil⟩
theorem Nms.al (h : Nms base W p b A cp n vs xs) (o : Obj) : Nms base (W.alloc o) p b A cp n vs xs := h.up ((Below.refl _ _).alloc (Nat.le_refl _) o)
theorem Nms.c0 (h : Nms base W p b A cp n vs xs) : W.cell? ⟨p, 0, none⟩ = some (.slice A n cp) := by simp [World.cell?, h.blk]
theorem Nms.c1 (h : Nms base W p b A cp n vs xs) : W.cell? ⟨p, 1, none⟩ = some (.map (some b)) := by simp [World.cell?, h.blk]
end
theorem MapIs.not_cells {w : World} {b : Nat} {vs : List V8} (h : MapIs w b vs) {cs : Array Value} {t : TypeId} {fr : Nat × Nat} (hc : w.heap[b]? = some (.cells cs t fr)) : False := by
 obtain ⟨D, ⟨es, clock, h1, _⟩, _⟩ := h
 rw [h1] at hc
 cases hc
theorem own_ne_cells {w : World} {base q : Nat} {e t : TypeId} {size : Nat} {v : Value} {n : Nat} {xs : List Value} {cs : Array Value} {fr : Nat × Nat} (h : w.ownsRow base e size v n xs) (hq : w.heap[q]? = some (.cells cs t fr)) (ht : t ≠ e) : v.ownBlock ≠ some q := by
 rcases h.2 with ⟨h1, _⟩ | ⟨g, cap, cur, h1, _, h2, _⟩
 ·rw [h1]; intro e; cases e
 ·intro e
  rw [h1] at e
  injection e with e
  rw [← show g = q from e, h2] at hq
  injection hq with hq
  injection hq with _ h4
  exact ht h4.symm
theorem heap_lt (w : World) (o : Obj) : w.heap.size < (w.alloc o).heap.size := by simp
theorem newNames_h (w : World) : Calls Tryz.prog 84 #[] w fun e w' => ∃ p b, e = .returned (.pointer (some ⟨p, 0, none⟩)) ∧ Nms w.heap.size w' p b none 0 0 [] [] ∧ Hid (Below w.heap.size w w') := by
 have hmm := @run_makeMap Tryz.prog
 go_enter Tryz.func84, Tryz.ntmps84
 go_wp2
 go_ret
 refine ⟨w.heap.size + 1, w.heap.size, rfl, ⟨?_, by omega, Nat.le_refl _, World.ownsRow_nil _ _ _ _, ?_, rfl, fun _ => ⟨rfl, rfl⟩⟩, ((Below.refl _ _).alloc (Nat.le_refl _) _).alloc (by simp) _⟩
 ·have h := heap_alloc_new (w.alloc (.map #[] 0)) (.cells #[.slice none 0 0, .map (some w.heap.size)] 140)
  simpa using h
 ·exact (mapIs_new w).keep (Below.heap_alloc _ _ _ (by simp))
theorem put_taken {base p b cp n : Nat} {A : Option Addr} {vs : List V8} {xs : List ByteArray} {W : World} {a : V8} {s : ByteArray} (h : Nms base W p b A cp n vs xs) (ha : a.wf) (hm : a ∈ vs) :
 Calls Tryz.prog 121 #[.pointer (some ⟨p, 0, none⟩), a.v, .string s] W (RetV W false) := by
 have hl := h.lt
 obtain ⟨W1, hW1⟩ : ∃ X, X = W.alloc (.cells a.c.toArray 36) := ⟨_, rfl⟩
 have HA : At W1 W.heap.size a.c := by rw [hW1]; exact at_new0 W a.c _
 have HN : Nms base W1 p b A cp n vs xs := by rw [hW1]; exact h.al _
 have HB : Hid (Below W.heap.size W W1) := by rw [hW1]; exact (Below.refl _ _).alloc (Nat.le_refl _) _
 obtain ⟨c, hlook, hc⟩ := HN.map.look ha
 rw [decide_eq_true hm] at hlook
 have n1 := HN.c1
 clear hc ha hm h
 have HW1 := vhide hW1
 clear hW1
 go_enter Tryz.func121, Tryz.ntmps121
 go_wp2
 rw [← HW1.out]
 clear HW1
 obtain ⟨a0, a1, a2, a3, a4, a5, a6, a7⟩ := HA.v8
 go_quiet (fail)
 go_wp2
 go_ret
 exact ⟨rfl, ybelow_drewN HB.out nq⟩
def RetSB (W : World) (s : ByteArray) (b : Bool) (e : Ending) (w' : World) : Prop := e = .returned (.tuple #[.string s, .bool b]) ∧ Hid (Below W.heap.size W w')
theorem get_yes {base p b cp n : Nat} {A : Option Addr} {vs : List V8} {xs : List ByteArray} {W : World} {a : V8} {k : Nat} {s : ByteArray} (h : Nms base W p b A cp n vs xs) (hn : n ≤ 1000000) (ha : a.wf) (hk : vs[k]? = some a) (hs : xs[k]? = some s) :
 Calls Tryz.prog 35 #[.pointer (some ⟨p, 0, none⟩), a.v] W (RetSB W s true) := by
 have hm : a ∈ vs := List.mem_of_getElem? hk
 have hl := h.lt
 obtain ⟨W1, hW1⟩ : ∃ X, X = W.alloc (.cells a.c.toArray 36) := ⟨_, rfl⟩
 have HA : At W1 W.heap.size a.c := by rw [hW1]; exact at_new0 W a.c _
 have HN : Nms base W1 p b A cp n vs xs := by rw [hW1]; exact h.al _
 have HB : Hid (Below W.heap.size W W1) := by rw [hW1]; exact (Below.refl _ _).alloc (Nat.le_refl _) _
 obtain ⟨c, hlook, hc⟩ := HN.map.look ha
 rw [decide_eq_true hm] at hlook
 have n1 := HN.c1
 obtain rfl : c = k := hc k hk
 have hkn : k < n := by
  have h1 := (List.getElem?_eq_some_iff.1 hk).1
  rw [h.len] at h1; exact h1
 have n0 := HN.c0
 obtain ⟨g, hA, hg⟩ : ∃ g, A = some ⟨g, 0, none⟩ ∧ W1.cell? ⟨g, k, none⟩ = some (.string s) := by
  rcases HN.own.2 with ⟨h1, h2⟩ | ⟨g, cap, cur, h1, _⟩
  ·omega
  ·injection h1 with h1 _ _
   refine ⟨g, h1, ?_⟩
   have h4 := HN.own.cells (g := g) (by rw [h1]; rfl) k (.string s) (by rw [List.getElem?_map, hs]; rfl)
   rwa [show (⟨g, 0, none⟩ : Addr).add k = ⟨g, k, none⟩ by unfold Addr.add; split <;> simp_all] at h4
 subst hA
 clear hc ha hm h hk hs
 have HW1 := vhide hW1
 clear hW1
 go_enter Tryz.func35, Tryz.ntmps35
 go_wp2
 rw [← HW1.out]
 clear HW1
 obtain ⟨a0, a1, a2, a3, a4, a5, a6, a7⟩ := HA.v8
 go_quiet (fail)
 go_wp2
 go_ret2
 exact ⟨rfl, ybelow_drewN HB.out nq⟩
end Go.Proofs.YtfflmmbhpchloaaGreatDoor.V
end
section
open Go.RowKit
namespace Go.Proofs.YtfflmmbhpchloaaGreatDoor
theorem mk_cross {z : Int} {d : Nat} (hd : 0 < d) : (mkRat z d).num * (d : Int) = z * ((mkRat z d).den : Int) := by
 have h := (Rat.mkRat_eq_iff (n₁ := (mkRat z d).num) (d₁ := (mkRat z d).den) (n₂ := z) (d₂ := d) (mkRat z d).den_nz (by omega)).1 (Rat.mkRat_self _)
 exact h
theorem sign_mk {z : Int} {d : Nat} (hd : 0 < d) : (mkRat z d).num.sign = z.sign := by
 have e := mk_cross (z := z) hd
 have h := congrArg Int.sign e
 rw [Int.sign_mul, Int.sign_mul, Int.sign_eq_one_of_pos (a := (d : Int)) (by omega), Int.sign_eq_one_of_pos (a := ((mkRat z d).den : Int)) (Int.natCast_pos.2 (mkRat z d).den_pos), Int.mul_one, Int.mul_one] at h
 exact h
theorem low_terms {z : Int} {d g : Nat} (hd : 0 < d) (hg : g = Nat.gcd z.natAbs d) : 0 < g ∧ (mkRat z d).num.natAbs = z.natAbs / g ∧ (mkRat z d).den = d / g ∧ z.natAbs % g = 0 ∧ d % g = 0 ∧ decide ((mkRat z d).num < 0) = decide (z < 0) := by
 have hg0 : 0 < g := by rw [hg]; exact Nat.gcd_pos_of_pos_right _ hd
 have h1 : g ∣ z.natAbs := by rw [hg]; exact Nat.gcd_dvd_left _ _
 have h2 : g ∣ d := by rw [hg]; exact Nat.gcd_dvd_right _ _
 have hc : Nat.gcd d z.natAbs = g := by rw [hg, Nat.gcd_comm]
 have hz : ((g : Nat) : Int) ∣ z := Int.ofNat_dvd_left.2 h1
 refine ⟨hg0, ?_, ?_, Nat.mod_eq_zero_of_dvd h1, Nat.mod_eq_zero_of_dvd h2, ?_⟩
 ·rw [Rat.num_mkRat, if_neg (by omega), hc, Int.natAbs_ediv_of_dvd hz, Int.natAbs_natCast]
 ·rw [Rat.den_mkRat, if_neg (by omega), hc]
 ·have h := sign_mk (z := z) hd
  by_cases hn : z < 0
  ·rw [decide_eq_true hn]
   rw [Int.sign_eq_neg_one_of_neg hn] at h
   exact decide_eq_true (Int.sign_eq_neg_one_iff_neg.1 h)
  ·rw [decide_eq_false hn]
   refine decide_eq_false fun h2 => ?_
   rw [Int.sign_eq_neg_one_iff_neg.2 h2] at h
   exact hn (Int.sign_eq_neg_one_iff_neg.1 h.symm)
theorem mul_mk {z z' : Int} {d d' : Nat} : mkRat z d * mkRat z' d' = mkRat (z * z') (d * d') := Rat.mkRat_mul_mkRat z z' d d'
theorem inv_mk {z : Int} {d : Nat} (hz : z ≠ 0) (hd : 0 < d) : (mkRat z d)⁻¹ = mkRat (if z < 0 then -(d : Int) else (d : Int)) z.natAbs := by
 rw [← Rat.divInt_ofNat, Rat.inv_divInt]
 by_cases hn : z < 0
 ·rw [if_pos hn, ← Rat.divInt_ofNat, ← Rat.neg_divInt_neg]
  congr 1; omega
 ·rw [if_neg hn, ← Rat.divInt_ofNat]
  congr 1; omega
section
variable {W W' : World} {p : Nat} {u v x : Value} {vs : List Value}
def NoW (vs : List Value) : Prop := ∀ v ∈ vs, ∀ x : Nat, v ≠ U32 x
theorem Nm.put {A : Option Addr} {n c m i : Nat} (h : Nm W A n c m) (hp : At W p vs) (hi : i < vs.length) (hw : NoW vs) (u : Value) : Nm (W.setCell ⟨p, i, none⟩ u) A n c m :=
 h.setn (hp.all i _ (List.getElem?_eq_getElem hi)).1 (hw _ (List.getElem_mem hi)) u
end
theorem cmp_u {W : World} {A A' : Option Addr} {n n' c c' m m' : Nat} (h : Nm W A n c m) (h' : Nm W A' n' c' m') : Calls Tryz.prog 65 #[.agg #[.slice A n c], .agg #[.slice A' n' c']] W (IntPost W (cmpI m m')) := cmp_h h h' rfl
section
variable {W : World} {b b' : Bool} {A A' : Option Addr} {n n' c c' m m' : Nat} {z z' : Int}
theorem rzero_h (h : Nm W A n c m) : Calls Tryz.prog 73 #[.agg #[.slice A n c]] W (RetB W (decide (m = 0))) := by
 obtain ⟨u, hu⟩ : ∃ u, u = cmpI m 0 := ⟨_, rfl⟩
 have CC : Hid (∀ o, Calls Tryz.prog 65 #[.agg #[.slice A n c], .agg #[.slice none 0 0]] (W.alloc o) (IntPost (W.alloc o) u)) := fun o => by rw [hu]; exact cmp_u (h.al o) (nm_nil _ none 0)
 have HU : Hid ((u == 0) = decide (m = 0)) := by rw [hu]; exact cmpI_beq m 0
 clear h hu
 go_enter Tryz.func73, Tryz.ntmps73
 go_wp2_with (go_at_call 65; (with_reducible refine (CC.out _).mono ?_); rintro e w1 ⟨rfl, hbk⟩)
 go_ret
 exact ⟨bool_ret (by first | exact HU.out | (have := HU.out; simpa using this)), (bx1 hbk).2.2⟩
theorem rone_h (h : Nm W A n c m) : Calls Tryz.prog 41 #[.agg #[.slice A n c]] W (RetB W (decide (m = 1))) := by
 obtain ⟨u, hu⟩ : ∃ u, u = cmpI m 1 := ⟨_, rfl⟩
 have CO : Hid (∀ W', Calls Tryz.prog 66 #[.int .u64 1] W' (NumR W' 1)) := fun W' => of_h (v := 1) (by omega)
 have CC : Hid (∀ W' B d, Bel W W' → Nm W' B (dl 1) d 1 → Calls Tryz.prog 65 #[.agg #[.slice A n c], .agg #[.slice B (dl 1) d]] W' (IntPost W' u)) := fun W' B d hb h1 => by rw [hu]; exact cmp_u (h.up hb) h1
 have HU : Hid ((u == 0) = decide (m = 1)) := by rw [hu]; exact cmpI_beq m 1
 clear h hu
 go_enter Tryz.func41, Tryz.ntmps41
 go_wp2_with fail
 have HA := (at_new0 W [.slice A n c] 42).dr
 have HW := ((Bel.refl W).al (.cells #[.slice A n c] 42)).dr
 go_region_held3 (fun w' => w'.cell? ⟨W.heap.size, 0, none⟩ = some (.slice A n c)) (first | exact HA.c0)
  (first | (go_at_call 66; (with_reducible refine (CO.out _).mono ?_); rintro e w1 ⟨B, d, rfl, hn, hbk⟩; replace HA := HA.up hbk; replace HW := HW.up hbk) | (go_at_call 65; (with_reducible refine (CC.out _ _ _ HW hn).mono ?_); rintro e w2 ⟨rfl, hbk⟩; replace HW := HW.up hbk; replace HA := HA.up hbk) | fail)
 go_wp2
 go_ret
 exact ⟨bool_ret (by first | exact HU.out | (have := HU.out; simpa using this)), HW⟩
theorem now2 {b : Bool} {A : Option Addr} {n c : Nat} : NoW [.bool b, .slice A n c] := by
 intro u hu x
 simp at hu
 rcases hu with rfl | rfl <;> (intro e; cases e)
theorem now1 {A : Option Addr} {n c : Nat} : NoW [.slice A n c] := by
 intro u hu x
 simp at hu
 subst hu
 intro e; cases e
theorem now3 {b : Bool} {A A' : Option Addr} {n c n' c' : Nat} : NoW [.bool b, .slice A n c, .slice A' n' c'] := by
 intro u hu x
 simp at hu
 rcases hu with rfl | rfl | rfl <;> (intro e; cases e)
def QA (W : World) (b : Bool) (A : Option Addr) (n c : Nat) (A' : Option Addr) (n' c' : Nat) (r : Rat) (K : Nat) : Prop :=
 ∃ (z : Int) (d : Nat), ZA W b A n c z ∧ Nm W A' n' c' d ∧ Hid (mkRat z d = r ∧ z.natAbs < W32 ^ K ∧ d < W32 ^ K)
theorem QA.up {W W' : World} {b : Bool} {A A' : Option Addr} {n c n' c' K : Nat} {r : Rat} (h : QA W b A n c A' n' c' r K) (hb : Hid (Below W.heap.size W W')) : QA W' b A n c A' n' c' r K := by
 obtain ⟨z, d, h1, h2, h3⟩ := h
 exact ⟨z, d, h1.up hb, h2.up hb, h3⟩
theorem QA.al {W : World} {b : Bool} {A A' : Option Addr} {n c n' c' K : Nat} {r : Rat} (h : QA W b A n c A' n' c' r K) (o : Obj) : QA (W.alloc o) b A n c A' n' c' r K := h.up ((Below.refl _ _).alloc (Nat.le_refl _) o)
def TermsR (W : World) (r : Rat) (K : Nat) (e : Ending) (w' : World) : Prop :=
 ∃ b A n c A' n' c' z d, e = .returned (.tuple #[.agg #[.bool b, .slice A n c], .agg #[.slice A' n' c']]) ∧ ZA w' b A n c z ∧ Nm w' A' n' c' d ∧ Hid (0 < d ∧ mkRat z d = r ∧ z.natAbs < W32 ^ K ∧ d < W32 ^ K) ∧ Hid (Below W.heap.size W w')
theorem dl_one : dl 1 = 1 := by unfold dl; rw [digs_pos (by decide) (by decide)]; rw [show 1 / W32 = 0 from rfl, digs_zero]; rfl
theorem terms_h {r : Rat} {K : Nat} (h : QA W b A n c A' n' c' r K) (hK : 0 < K) : Calls Tryz.prog 40 #[.agg #[.bool b, .slice A n c, .slice A' n' c']] W (TermsR W r K) := by
 obtain ⟨z, d, hz, hd, hr⟩ := h
 have CZ : Hid (∀ W', Bel W W' → Calls Tryz.prog 73 #[.agg #[.slice A' n' c']] W' (RetB W' (decide (d = 0)))) := fun W' hb => rzero_h (hd.up hb)
 have HB := Bel.refl W
 by_cases h0 : d = 0
 ·have HP : Hid (0 < 1 ∧ mkRat 0 1 = r ∧ (0 : Int).natAbs < W32 ^ K ∧ 1 < W32 ^ K) := by
   refine ⟨by decide, ?_, ?_, Nat.one_lt_pow (by omega) (by decide)⟩
   ·rw [← hr.out.1, h0]; simp
   ·exact Nat.pow_pos (by decide)
  rw [decide_eq_true h0] at CZ
  have CO : Hid (∀ W', Calls Tryz.prog 66 #[.int .u64 1] W' (NumR W' 1)) := fun W' => of_h (v := 1) (by omega)
  clear h0 hr hz hd
  go_enter Tryz.func40, Tryz.ntmps40
  go_wp2_with (first | (go_at_call 73; (with_reducible refine (CZ.out _ (((HB.al _).al _).al _)).mono ?_); rintro e w1 ⟨rfl, hbk⟩; have HQ := At.up (((at_new0 _ _ _).al _).al _) hbk; have HP0 := At.up ((at_new1 _ _ _ _).al _) hbk; have HP1 := At.up (at_new2 _ _ _ _ _) hbk; replace HB := (((HB.al _).al _).al _).up hbk) | (go_at_call 66; (with_reducible refine (CO.out _).mono ?_); rintro e w2 ⟨B, e2, rfl, hn, hbk⟩; replace HB := HB.up hbk; replace HQ := HQ.up hbk; replace HP0 := HP0.up hbk; replace HP1 := HP1.up hbk; have r0 := HP0.c0; have r1 := HP0.c1; have f0 := HP0.f0; have f1 := HP0.f1; have r2 := HP1.c0; have f2 := HP1.f0) | fail)
  refine bodyPost_ret (v := .tuple #[.agg #[.bool false, .slice none 0 0], .agg #[.slice B (dl 1) e2]]) (by simp [results, Tryz.results40, go_sem, r0, r1, r2]) rfl ?_
  have P0 := HP0.put (i := 0) (by simp) (.bool false)
  have P1 := P0.put (i := 1) (by simp) (.slice none 0 0)
  have Q1 := (HP1.far (i := 0) (show W.heap.size + 1 ≠ W.heap.size + 1 + 1 by omega) (.bool false)).far (i := 1) (show W.heap.size + 1 ≠ W.heap.size + 1 + 1 by omega) (.slice none 0 0)
  refine ⟨false, none, 0, 0, B, dl 1, e2, 0, 1, rfl, ⟨nm_nil _ _ _, rfl⟩, ?_, HP, ?_⟩
  ·exact ((hn.put HP0 (by simp) now2 _).put P0 (by simp) now2 _).put Q1 (by simp) now1 _
  ·exact (((Below.setCell HB (by simp) _).setCell (by simp) _).setCell (by simp; omega) _)
 ·have HP : Hid (0 < d ∧ mkRat z d = r ∧ z.natAbs < W32 ^ K ∧ d < W32 ^ K) := ⟨by omega, hr.out⟩
  rw [decide_eq_false h0] at CZ
  clear h0 hr
  go_enter Tryz.func40, Tryz.ntmps40
  go_wp2_with (first | (go_at_call 73; (with_reducible refine (CZ.out _ (((HB.al _).al _).al _)).mono ?_); rintro e w1 ⟨rfl, hbk⟩; have HQ := At.up (((at_new0 _ _ _).al _).al _) hbk; have HP0 := At.up ((at_new1 _ _ _ _).al _) hbk; have HP1 := At.up (at_new2 _ _ _ _ _) hbk; replace HB := (((HB.al _).al _).al _).up hbk; replace hz := (((hz.al _).al _).al _).up hbk; replace hd := (((hd.al _).al _).al _).up hbk; have r0 := HP0.c0; have r1 := HP0.c1; have f0 := HP0.f0; have f1 := HP0.f1; have r2 := HP1.c0; have f2 := HP1.f0; have q0 := HQ.c0; have q1 := HQ.c1; have q2 := HQ.c2) | fail)
  go_region_with (fail)
  all_goals
   go_wp2_with fail
   refine bodyPost_ret (v := .tuple #[.agg #[.bool b, .slice A n c], .agg #[.slice A' n' c']]) (by simp [results, Tryz.results40, go_sem, r0, r1, r2]) rfl ?_
   have P0 := HP0.put (i := 0) (by simp) (.bool b)
   have P1 := P0.put (i := 1) (by simp) (.slice A n c)
   have Q1 := (HP1.far (i := 0) (show W.heap.size + 1 ≠ W.heap.size + 1 + 1 by omega) (.bool b)).far (i := 1) (show W.heap.size + 1 ≠ W.heap.size + 1 + 1 by omega) (.slice A n c)
   refine ⟨b, A, n, c, A', n', c', z, d, rfl, ⟨?_, hz.2⟩, ?_, HP, ?_⟩
   ·exact ((hz.1.put HP0 (by simp) now2 _).put P0 (by simp) now2 _).put Q1 (by simp) now1 _
   ·exact ((hd.put HP0 (by simp) now2 _).put P0 (by simp) now2 _).put Q1 (by simp) now1 _
   ·exact (((Below.setCell HB (by simp) _).setCell (by simp) _).setCell (by simp; omega) _).drew
end
end Go.Proofs.YtfflmmbhpchloaaGreatDoor
end
