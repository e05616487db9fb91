/- Each theorem here says its own conditions. -/
import Derived.RangeFuncNested
import Derived.RangeFuncBound
import Derived.RangeFuncCalls
import Derived.RangeFuncLeaves
import Derived.OwnWalkIn
import Derived.TacticsInMore
import Derived.LoopNIn
import Derived.LoopIn
import Derived.Test.YtfflmmbhpchloaaGreatDoorGTkwc24
import Derived.OrdersIn
set_option maxRecDepth 100000
set_option maxHeartbeats 16000000
section
namespace Go.Proofs.YtfflmmbhpchloaaGreatDoor
open Go.RowKit Go.Shelf
def SeqM (F : Fence) (n : Nat) (P : Program) (g : Nat) (lb : Array Value) (Rd : World → Prop) (xs : List (Array Value)) : Prop :=
 ∀ (l : Nat) (J Jx : Nat → World → Prop) (W : World), (∀ k V, J k V → Rd V) → (∀ k V cs t, J k V → J k (V.alloc (.cells cs t))) →
  (∀ k x V, J k V → xs[k]? = some x → YieldAt F (n - 1) P l x V fun e V' => (e = .returned (.bool true) ∧ J (k + 1) V') ∨ (e = .returned (.bool false) ∧ Jx (k + 1) V')) →
  J 0 W → CallsIn F n P g (#[.func (.yield l) #[] #[]] ++ lb) W fun e W' => (∃ v, e = .returned v) ∧ (J xs.length W' ∨ ∃ k, k ≤ xs.length ∧ Jx k W')
def MPost (I : Nat → World → Prop) (Ix : Code → Nat → World → Prop) (k : Nat) (V : World) : Exit → Act → World → Prop
 | .normal, _, V' => KeepsOthers V V' ∧ I k V'
 | .ret, _, V' => KeepsOthers V V' ∧ Ix .ret k V'
 | .exit id, _, V' => KeepsOthers V V' ∧ Ix (.exit id) k V'
 | .goto t, _, V' => KeepsOthers V V' ∧ Ix (.goto t) k V'
 | .panic _, _, _ => False
 | .outgrown, _, _ => False
def LiveM (d : Nat) (r : Loop) (V : World) : Prop := V.heap[d + 1]? = some (.loop r) ∧ V.heap[d]? = some (.deferred (some []))
section
variable {d : Nat} {r r' : Loop} {V V' : World} {P : Program} {I : Nat → World → Prop} {k : Nat}
theorem LiveM.lt (h : LiveM d r V) : d + 1 < V.heap.size := (Array.getElem?_eq_some_iff.1 h.1).1
theorem LiveM.put (h : LiveM d r V) (r' : Loop) : LiveM d r' (V.putObj (d + 1) (.loop r')) := ⟨World.putObj_heap_same h.lt, (World.putObj_heap_other (by omega)).trans h.2⟩
theorem LiveM.keep (h : LiveM d r V) (hk : KeepsOthers V V') : LiveM d r V' := ⟨hk.same _ _ h.1 rfl, hk.same _ _ h.2 rfl⟩
theorem OwnFrom.liveM {w : World} (hI : OwnFrom d I) (h : LiveM d r V) (hi : I k V) (r' : Loop) : I k (V.putObj (d + 1) (.loop r')) := OwnFrom.putObj hI _ hi (by omega) h.1 rfl
theorem LiveM.fin (h : LiveM d { r with state := .busy } V) (jump : Option Code) :
 (Instr.endRound (d + 1) jump).run P V = .ok (.bool jump.isNone) (V.putObj (d + 1) (.loop { r with state := if jump.isNone then .ready else .done, pending := jump })) := by
 have h2 := run_endRound (P := P) (r := { r with state := .busy }) jump h.1
 exact h2
end
theorem At.own {W W' : World} {p : Nat} {vs : List Value} {row : Option Nat} (h : At W p vs) (hg : W.grownBy W' row) (hne : ∀ r, row = some r → p ≠ r) : At W' p vs := by
 have e : W'.heap[p]? = W.heap[p]? := hg.block p h.lt (fun e => hne p e.symm rfl)
 exact ⟨Nat.lt_of_lt_of_le h.lt hg.size, fun i v hv => ⟨(World.cell?_of_block (a := ⟨p, i, none⟩) e).trans (h.all i v hv).1, (World.frozen?_of_block (a := ⟨p, i, none⟩) e).trans (h.all i v hv).2⟩⟩
variable {F : Fence} {n : Nat} {P : Program}
theorem wpIn_range_mk {g : Operand} {ps : Array Tmp} {assign body : Code} {Q : Exit → Act → World → Prop} {a : Act} {w : World}
 (hro : F.round = none) (h1 : 1 ≤ n) {gf : Nat} {lb : Array Value} (hg : a.eval g = .func (.func gf) #[] lb) (hFg : F.fn gf) (eg : ∀ args w, (callFunc gf args).run P w = .ok (.enter gf args) w)
 {Rd : World → Prop} {xs : List (Array Value)} (hseq : SeqM F (n - 1) P gf lb Rd xs) (hps : ∀ (k : Nat) (x : Array Value), xs[k]? = some x → ps.size = x.size)
 (I : Nat → World → Prop) (Ix : Code → Nat → World → Prop) (hI : OwnFrom w.heap.size I) (hIx : ∀ c, OwnFrom w.heap.size (Ix c)) (hRd : ∀ k V, I k V → Rd V) (h0 : I 0 w) (cs : Array Value → List Value) (ty : TypeId) (a₁ : Array Value → Nat → Act)
 (hassign : ∀ (l k : Nat) (x : Array Value) (V : World) (K : Act → World → Prop), xs[k]? = some x → K (a₁ x V.heap.size) (V.alloc (.cells (cs x).toArray ty)) →
   assign.wpIn (F.inRound l) (n - 1 - 1) P (Exit.then K (fun _ _ _ => False)) { tmps := (ps.zip x).foldl (fun t (p, v) => t.setIfInBounds p v) a.tmps, defers := [] } V)
 (hbody : ∀ (l k : Nat) (x : Array Value) (V : World) (b : Nat), I k V → xs[k]? = some x → w.heap.size ≤ b → At V b (cs x) → body.wpIn (F.inRound l) (n - 1 - 1) P (MPost I Ix (k + 1) V) (a₁ x b) V)
 (hdone : ∀ (D : Nat) (V : World), w.heap.size ≤ D → I xs.length V → V.heap[D]? = some (.deferred (some [])) → Q .normal { a with defers := { target := .collected D, args := #[] } :: a.defers } V)
 (hstop : ∀ (D : Nat) (c : Code) (k : Nat) (V : World), w.heap.size ≤ D → Ix c k V → V.heap[D]? = some (.deferred (some [])) → c.wpIn F n P Q { a with defers := { target := .collected D, args := #[] } :: a.defers } V) :
 (Code.rangeFunc g ps assign body).wpIn F n P Q a w := by
 refine wpIn_rangeFunc fun fn hfn => ?_
 rw [hro]
 obtain ⟨r0, hr0⟩ : ∃ r0 : Loop, r0 = { state := .ready, pending := none, fn, tmps := a.tmps, params := ps, assign, body, defers := w.heap.size } := ⟨_, rfl⟩
 obtain ⟨W1, hW1⟩ : ∃ W1, W1 = (w.alloc (.deferred (some []))).alloc (.loop r0) := ⟨_, rfl⟩
 have hl1 : LiveM w.heap.size r0 W1 := by
  rw [hW1]
  refine ⟨?_, (Below.heap_alloc _ _ _ (by simp)).trans (World.alloc_heap_new w _)⟩
  have := World.alloc_heap_new (w.alloc (.deferred (some []))) (.loop r0)
  rwa [World.size_alloc] at this
 have hI1 : I 0 W1 := by rw [hW1]; exact hI.alloc _ (hI.alloc _ h0)
 refine ⟨w.heap.size + 1, [{ target := .collected w.heap.size, args := #[] }], W1, { target := .fn (.func gf) lb, args := #[.func (.yield (w.heap.size + 1)) #[] #[]] }, W1, gf,
  #[.func (.yield (w.heap.size + 1)) #[] #[]] ++ lb, W1, ?_, ?_, ?_, ?_, fun _ => h1, ?_⟩
 ·rw [hW1, hr0]; exact run_enterLoop_outer _ _ _ _ _
 ·simp only [resolve, hg]
  simp [go_sem]
 ·intro f' hf'; simp [Target.leads] at hf'; subst hf'; exact hFg
 ·simp [invoke, go_sem, eg]
 refine (hseq (w.heap.size + 1) (fun k V => I k V ∧ LiveM w.heap.size r0 V) (fun k V => ∃ c, Ix c k V ∧ LiveM w.heap.size { r0 with state := .done, pending := some c } V) W1 (fun k V h => hRd k V h.1)
  (fun k V cs t h => ⟨hI.alloc _ h.1, h.2.keep (KeepsOthers.alloc V _)⟩) ?_ ⟨hI1, hl1⟩).mono ?_
 ·rintro k x V ⟨hi, hl⟩ hx
  have hy := run_yield (P := P) (args := x) hl.1 (by rw [hr0]; exact (hps k x hx).symm)
  refine ⟨_, _, _, _, hy, roundIn_of_wpIn (by rw [hr0]; exact hfn) ?_⟩
  have ha := hassign (w.heap.size + 1) k x V (fun a₁ w₁ => ∃ w₂, (Instr.beginRound (w.heap.size + 1)).run P w₁ = .ok () w₂ ∧ body.wpIn (F.inRound (w.heap.size + 1)) (n - 1 - 1) P (roundPost P (w.heap.size + 1) fun e V' => (e = .returned (.bool true) ∧ (I (k + 1) V' ∧ LiveM w.heap.size r0 V')) ∨ (e = .returned (.bool false) ∧ ∃ c, Ix c (k + 1) V' ∧ LiveM w.heap.size { r0 with state := .done, pending := some c } V')) a₁ w₂)
   hx ⟨_, run_beginRound (hl.keep (KeepsOthers.alloc V _)).1 (by rw [hr0]), ?_⟩
  ·rw [hr0] at ha ⊢; exact ha
  ·have hl1 := hl.keep (KeepsOthers.alloc V (.cells (cs x).toArray ty))
   have hi1 : I k (V.alloc (.cells (cs x).toArray ty)) := hI.alloc _ hi
   have hlb := hl1.put { r0 with state := .busy }
   refine wpIn_mono (hbody _ k x _ V.heap.size (OwnFrom.liveM (w := w) hI hl1 hi1 _) hx (by have := hl.lt; omega) (At.own (at_new0 V (cs x) ty) (grownBy_putObj' _ _ _) (fun r e => by cases e; have := hl.lt; omega))) ?_
   rintro e a3 V3 hp
   have out : ∀ (c : Code), KeepsOthers ((V.alloc (.cells (cs x).toArray ty)).putObj (w.heap.size + 1) (.loop { r0 with state := .busy })) V3 → Ix c (k + 1) V3 → ∃ v V4, (Instr.endRound (w.heap.size + 1) (some c)).run P V3 = .ok v V4 ∧ ((Ending.returned v = .returned (.bool true) ∧ (I (k + 1) V4 ∧ LiveM w.heap.size r0 V4)) ∨ (Ending.returned v = .returned (.bool false) ∧ ∃ c, Ix c (k + 1) V4 ∧ LiveM w.heap.size { r0 with state := .done, pending := some c } V4)) := fun c hk hi3 => by
    have hl3 := hlb.keep hk
    exact ⟨_, _, hl3.fin (some c), .inr ⟨rfl, c, OwnFrom.liveM (w := w) (hIx c) hl3 hi3 _, hl3.put _⟩⟩
   cases e with
   | normal =>
     obtain ⟨hk3, hi3⟩ := hp
     have hl3 := hlb.keep hk3
     refine ⟨_, _, hl3.fin none, .inl ⟨rfl, ⟨OwnFrom.liveM (w := w) hI hl3 hi3 _, ?_⟩⟩⟩
     have := hl3.put r0
     rw [hr0] at this ⊢
     exact this
   | ret => exact out _ hp.1 hp.2
   | exit id => exact out _ hp.1 hp.2
   | goto t => exact out _ hp.1 hp.2
   | panic ch => exact hp.elim
   | outgrown => exact hp.elim
 ·rintro e W2 ⟨⟨v, rfl⟩, (⟨hi, hl⟩ | ⟨k, _, c, hi, hl⟩)⟩
  ·refine ⟨none, _, ?_, hdone w.heap.size _ (Nat.le_refl _) (OwnFrom.liveM (w := w) hI hl hi { r0 with state := .exhausted }) ((World.putObj_heap_other (by omega)).trans hl.2)⟩
   have := run_endLoop (P := P) hl.1 (by rw [hr0]; simp)
   rw [this, hr0]
  ·refine ⟨some c, _, ?_, hstop w.heap.size c k _ (Nat.le_refl _) (OwnFrom.liveM (w := w) (hIx c) hl hi { { r0 with state := .done, pending := some c } with state := .exhausted }) ((World.putObj_heap_other (by omega)).trans hl.2)⟩
   exact run_endLoop (P := P) hl.1 (by simp)
theorem wpIn_range_two (s1 s2 sb ss : Nat) {g : Operand} {ps : Array Tmp} {assign body : Code} {Q : Exit → Act → World → Prop} {a : Act} {w : World}
 (hro : F.round = none) (h1 : 1 ≤ n) {gf : Nat} {lb : Array Value} (hg : a.eval g = .func (.func gf) #[] lb) (hFg : F.fn gf) (eg : ∀ args w, (callFunc gf args).run P w = .ok (.enter gf args) w)
 {Rd : World → Prop} {xs : List (Array Value)} (hseq : SeqM F (n - 1) P gf lb Rd xs) (hps : ∀ (k : Nat) (x : Array Value), xs[k]? = some x → ps.size = x.size)
 (I : Nat → World → Prop) (Ix : Code → Nat → World → Prop) (hI : OwnFrom w.heap.size I) (hIx : ∀ c, OwnFrom w.heap.size (Ix c)) (hRd : ∀ k V, I k V → Rd V) (h0 : I 0 w) (cs : Array Value → List Value) (ty : TypeId)
 (hassign : ∀ (l k : Nat) (x : Array Value) (V : World) (K : Act → World → Prop), xs[k]? = some x → K ({ tmps := (((a.tmps.setIfInBounds s1 (x.getD 0 undef)).setIfInBounds s2 (x.getD 1 undef)).setIfInBounds sb (.pointer (some ⟨V.heap.size, 0, none⟩))).setIfInBounds ss (x.getD 1 undef), defers := [] }) (V.alloc (.cells (cs x).toArray ty)) →
   assign.wpIn (F.inRound l) (n - 1 - 1) P (Exit.then K (fun _ _ _ => False)) { tmps := (ps.zip x).foldl (fun t (p, v) => t.setIfInBounds p v) a.tmps, defers := [] } V)
 (hbody : ∀ (l k : Nat) (x : Array Value) (V : World) (b : Nat), I k V → xs[k]? = some x → w.heap.size ≤ b → At V b (cs x) → body.wpIn (F.inRound l) (n - 1 - 1) P (MPost I Ix (k + 1) V) ({ tmps := (((a.tmps.setIfInBounds s1 (x.getD 0 undef)).setIfInBounds s2 (x.getD 1 undef)).setIfInBounds sb (.pointer (some ⟨b, 0, none⟩))).setIfInBounds ss (x.getD 1 undef), defers := [] }) V)
 (hdone : ∀ (D : Nat) (V : World), w.heap.size ≤ D → I xs.length V → V.heap[D]? = some (.deferred (some [])) → Q .normal { a with defers := { target := .collected D, args := #[] } :: a.defers } V)
 (hstop : ∀ (D : Nat) (c : Code) (k : Nat) (V : World), w.heap.size ≤ D → Ix c k V → V.heap[D]? = some (.deferred (some [])) → c.wpIn F n P Q { a with defers := { target := .collected D, args := #[] } :: a.defers } V) :
 (Code.rangeFunc g ps assign body).wpIn F n P Q a w := by
 exact wpIn_range_mk hro h1 hg hFg eg hseq hps I Ix hI hIx hRd h0 cs ty (fun y b => { tmps := (((a.tmps.setIfInBounds s1 (y.getD 0 undef)).setIfInBounds s2 (y.getD 1 undef)).setIfInBounds sb (.pointer (some ⟨b, 0, none⟩))).setIfInBounds ss (y.getD 1 undef), defers := [] }) hassign hbody hdone hstop
end Go.Proofs.YtfflmmbhpchloaaGreatDoor
end
section
open Go.RowKit
open Go.Proofs.YtfflmmbhpchloaaGreatDoor.V
namespace Go.Proofs.YtfflmmbhpchloaaGreatDoor
attribute [local go_sem] Oper.semAt_some
structure SgAt (p : Nat) (A : Option Addr) (n c : Nat) (A' : Option Addr) (n' c' : Nat) (l l' : List AL) (V : World) : Prop where
 c0 : V.cell? ⟨p, 0, none⟩ = some (.slice A n c)
 c1 : V.cell? ⟨p, 1, none⟩ = some (.slice A' n' c')
 hl : n = l.length
 hl' : n' = l'.length
 up : ∀ k a, l[k]? = some a → ∃ ad : Addr, A = some ad ∧ V.cell? (ad.add (k * 3)) = some (.string a.1) ∧ V.cell? ⟨(ad.add (k * 3)).block, (ad.add (k * 3)).off + 1, none⟩ = some (.string a.2.1) ∧ V.cell? ⟨(ad.add (k * 3)).block, (ad.add (k * 3)).off + 2, none⟩ = some (.int .i64 a.2.2)
 dn : ∀ k a, l'[k]? = some a → ∃ ad : Addr, A' = some ad ∧ V.cell? (ad.add (k * 3)) = some (.string a.1) ∧ V.cell? ⟨(ad.add (k * 3)).block, (ad.add (k * 3)).off + 1, none⟩ = some (.string a.2.1) ∧ V.cell? ⟨(ad.add (k * 3)).block, (ad.add (k * 3)).off + 2, none⟩ = some (.int .i64 a.2.2)
def argA (x : AL × Int) : Array Value := #[.agg #[.string x.1.1, .string x.1.2.1, .int .i64 x.1.2.2], .int .i64 x.2]
def argsA (l l' : List AL) : List (Array Value) := (sgA (l, l')).map argA
theorem argsA_len (l l' : List AL) : (argsA l l').length = l.length + l'.length := by unfold argsA sgA; simp
theorem argsA_up {l l' : List AL} {k : Nat} {a : AL} (h : l[k]? = some a) : (argsA l l')[k]? = some (argA (a, 1)) := by
 have hk := (List.getElem?_eq_some_iff.1 h).1
 unfold argsA sgA
 rw [List.getElem?_map, List.getElem?_append_left (by simpa using hk), List.getElem?_map, h]; rfl
theorem argsA_dn {l l' : List AL} {k : Nat} {a : AL} (h : l'[k]? = some a) : (argsA l l')[l.length + k]? = some (argA (a, -1)) := by
 unfold argsA sgA
 rw [List.getElem?_map, List.getElem?_append_right (by simp)]
 simp [h]
theorem sgn_at {n0 p : Nat} {A A' : Option Addr} {n c n' c' : Nat} {l l' : List AL} (hn : n ≤ 1000000) (hn' : n' ≤ 1000000) :
 SeqM Fence.wide n0 Tryz.prog 59 #[.pointer (some ⟨p, 0, none⟩)] (SgAt p A n c A' n' c' l l') (argsA l l') := by
 intro li J Jx W hRd hAl hY h0
 have HY := khide hY
 have HR := khide hRd
 have HA := khide hAl
 have hc0 := (hRd 0 W h0).c0
 obtain ⟨N, hN⟩ : ∃ N, N = (argsA l l').length := ⟨_, rfl⟩
 have HNN : Hid (N = n + n') := by rw [hN, argsA_len, (hRd 0 W h0).hl, (hRd 0 W h0).hl']; rfl
 have HNL : Hid (n = l.length) := (hRd 0 W h0).hl
 have HNL2 : Hid (n' = l'.length) := (hRd 0 W h0).hl'
 refine callsIn_of_wp Tryz.func59 rfl trivial ?_ rfl
 simp only [Tryz.ntmps59, List.size_toArray, List.length_cons, List.length_nil, Nat.reduceAdd, Nat.reduceSub, Array.replicate_succ, Array.replicate_zero, List.push_toArray, List.append_toArray, List.nil_append, List.cons_append]
 rw [← hN]
 have HN := khide hN
 clear hY hRd hAl hN
 gi_wp2
 gi_loopw [10] (fun iv wr => ∃ k : Nat, k ≤ n ∧ iv = .int .i64 (k : Int) ∧ Hid (J k wr)) (fun iv _ => n - (intOf iv).toNat)
 case atStart => exact ⟨0, Nat.zero_le _, rfl, h0⟩
 case round =>
  obtain ⟨k, hk, rfl, HJ⟩ := hrel
  by_cases hlt : k < n
  ·have hx : k < l.length := by rw [← HNL.out]; exact hlt
   obtain ⟨x, hxe⟩ : ∃ x, l[k]? = some x := ⟨_, List.getElem?_eq_getElem hx⟩
   obtain ⟨ad, rfl, q0, q1, q2⟩ := (HR.out _ _ HJ.out).up k x hxe
   have HJ1 : Hid (J (k) (wr.alloc (.cells #[.string x.1, .string x.2.1, .int .i64 x.2.2] 96))) := HA.out _ _ _ _ HJ.out
   have hxa : (argsA l l')[k]? = some (argA (x, 1)) := argsA_up hxe
   obtain ⟨fn, tmps, assign, body, hy, hRr⟩ := HY.out (k) _ _ HJ1.out hxa
   unfold argA at hy
   have wk : IntKind.i64.wrap ((k : Int) + 1) = (k : Int) + 1 := IntWalk.i64_in _ (by omega)
   have dk : decide ((k : Int) < (n : Int)) = true := decide_eq_true (by omega)
   have HLE : Hid (k + 1 ≤ N) := by rw [HNN.out]; unfold Hid; omega
   clear hxe hx hxa
   gi_wp2_with fail
   refine ⟨fun h => (by cases h), hRr.mono ?_⟩
   rintro e W3 (⟨rfl, hJ3⟩ | ⟨rfl, hJx3⟩)
   ·have HJ3 := khide hJ3
    clear hJ3 HJ HJ1 hRr hy
    gi_wp2
    go_roundw
    case rel => exact ⟨k + 1, by omega, by go_num, HJ3⟩
    case measure => simp [intOf]; omega
   ·have HJ3 := khide hJx3
    clear hJx3 HJ HJ1 hRr hy
    gi_wp2
    refine bodyPost_ret (results_none rfl _ _ _) rfl ?_
    exact ⟨⟨_, rfl⟩, .inr ⟨_, HLE.out, HJ3.out⟩⟩
  ·obtain rfl : k = n := by omega
   have dk : decide ((k : Int) < (k : Int)) = false := decide_eq_false (by omega)
   have hc1 := (HR.out _ _ HJ.out).c1
   have HN0 := HJ
   gi_wp2
   gi_loopw [22] (fun iv wr => ∃ j : Nat, j ≤ n' ∧ iv = .int .i64 (j : Int) ∧ Hid (J (k + j) wr)) (fun iv _ => n' - (intOf iv).toNat)
   case atStart => exact ⟨0, Nat.zero_le _, rfl, HN0⟩
   case round =>
    obtain ⟨j, hk, rfl, HJ⟩ := hrel
    by_cases hlt : j < n'
    ·have hx : j < l'.length := by rw [← HNL2.out]; exact hlt
     obtain ⟨x, hxe⟩ : ∃ x, l'[j]? = some x := ⟨_, List.getElem?_eq_getElem hx⟩
     obtain ⟨ad, rfl, q0, q1, q2⟩ := (HR.out _ _ HJ.out).dn j x hxe
     have HJ1 : Hid (J (k + j) (wr.alloc (.cells #[.string x.1, .string x.2.1, .int .i64 x.2.2] 96))) := HA.out _ _ _ _ HJ.out
     have hxa : (argsA l l')[k + j]? = some (argA (x, -1)) := by rw [HNL.out]; exact argsA_dn hxe
     obtain ⟨fn, tmps, assign, body, hy, hRr⟩ := HY.out (k + j) _ _ HJ1.out hxa
     unfold argA at hy
     have wk : IntKind.i64.wrap ((j : Int) + 1) = (j : Int) + 1 := IntWalk.i64_in _ (by omega)
     have dk : decide ((j : Int) < (n' : Int)) = true := decide_eq_true (by omega)
     have HLE : Hid (k + j + 1 ≤ N) := by rw [HNN.out]; unfold Hid; omega
     clear hxe hx hxa
     gi_wp2_with fail
     refine ⟨fun h => (by cases h), hRr.mono ?_⟩
     rintro e W3 (⟨rfl, hJ3⟩ | ⟨rfl, hJx3⟩)
     ·have HJ3 := khide hJ3
      clear hJ3 HJ HJ1 hRr hy
      gi_wp2
      go_roundw
      case rel => exact ⟨j + 1, by omega, by go_num, HJ3⟩
      case measure => simp [intOf]; omega
     ·have HJ3 := khide hJx3
      clear hJx3 HJ HJ1 hRr hy
      gi_wp2
      refine bodyPost_ret (results_none rfl _ _ _) rfl ?_
      exact ⟨⟨_, rfl⟩, .inr ⟨_, HLE.out, HJ3.out⟩⟩
    ·obtain rfl : j = n' := by omega
     have dk : decide ((j : Int) < (j : Int)) = false := decide_eq_false (by omega)
     gi_wp2
     go_end0
     exact ⟨⟨_, rfl⟩, .inl (by rw [HNN.out]; exact HJ.out)⟩
end Go.Proofs.YtfflmmbhpchloaaGreatDoor
end
section
open Go.RowKit
namespace Go.Proofs.YtfflmmbhpchloaaGreatDoor
theorem upon_wide {l n : Nat} {P : Program} {o : Oper} {a : Act} {K K' : Act → World → Prop} {Q : Exit → Act → World → Prop} {r : Result Next} (hk : ∀ a w, K a w → K' a w) (h : o.upon P a K Q r) : o.uponIn (Fence.wide.inRound l) n P a K' Q r := by
 cases r with
 | ok x w' =>
   cases x with
   | value v => exact hk _ _ h
   | skip => exact hk _ _ h
   | enter f args =>
     refine ⟨(fun h => by cases h), CallsIn.inRound l (callsIn_wide.2 (Calls.mono h ?_))⟩
     intro e w'' he
     cases e with
     | returned v => exact hk _ _ he
     | panicked c => exact he
     | outgrown => exact he
   | row row args => exact ⟨(fun h => by cases h), fun c cs _ => let ⟨v, w1, r, s⟩ := h c cs; ⟨v, w1, hk _ _ r, stepsIn_wide.2 s⟩⟩
   | _ => first | exact hk _ _ h | exact h.elim
 | halt x w' =>
   cases x with
   | panic v => exact h
   | _ => exact h.elim
theorem wpOp_wide {l n i : Nat} {P : Program} {ops : Array Oper} {a : Act} {w : World} {K K' : Act → World → Prop} {Q : Exit → Act → World → Prop} (hk : ∀ a w, K a w → K' a w) (hd : ∀ o, ops[i]? = some o → ∀ c, o.op ≠ .defer c) (hL : ¬ LetsOut Q) (h : wpOp P ops Q i K a w) : wpOpIn (Fence.wide.inRound l) n P ops Q i K' a w := by
 unfold wpOp at h
 unfold wpOpIn
 cases ho : ops[i]? with
 | none => rw [ho] at h; exact hk _ _ h
 | some o =>
   rw [ho] at h
   dsimp only at h ⊢
   split at h
   ·rename_i hw
    rw [if_pos hw]
    rcases h with h | h
    ·refine ⟨fun f _ => trivial, ?_⟩
     rw [Oper.semAt_eq _ _ _ (hd o ho)]
     exact upon_wide hk h
    ·exact absurd h.2 hL
   ·rename_i hw
    rw [if_neg hw]
    exact ⟨fun f _ => trivial, hk _ _ h⟩
theorem wpAny_wide {l n : Nat} {P : Program} {md : Region.Mode} {ops : Array Oper} {Q : Exit → Act → World → Prop} (hd : ∀ (i : Nat) (o : Oper), ops[i]? = some o → ∀ c, o.op ≠ .defer c) (hL : ¬ LetsOut Q) :
 ∀ (fuel : Nat) (listed : Array Bool) (a : Act) (w : World), wpAny P md ops Q fuel listed a w → wpAnyIn (Fence.wide.inRound l) n P md ops Q fuel listed a w
 | 0, _, _, _, h => h
 | fuel + 1, _, _, _, h => ⟨h.1, fun i hi => wpOp_wide (fun a' w' h' => wpAny_wide hd hL fuel _ a' w' h') (hd i) hL (h.2 i hi)⟩
def noDefer (o : Oper) : Bool := match o.op with
 | .defer _ => false
 | _ => true
theorem noDefer_all {ops : Array Oper} (h : ops.toList.all noDefer = true) (i : Nat) (o : Oper) (ho : ops[i]? = some o) (c) : o.op ≠ .defer c := fun e => by
 have h1 := List.all_eq_true.1 h o (by rw [Array.mem_toList_iff]; exact Array.mem_of_getElem? ho)
 unfold noDefer at h1
 rw [e] at h1
 cases h1
theorem wpIn_region_held_drew {l n id : Nat} {P : Program} {ops : Array Oper} {Q : Exit → Act → World → Prop} {S : World → Prop} {a : Act} {w : World} (hm : P.follows .mixedOrders = true) (hd : ops.toList.all noDefer = true) (hL : ¬ LetsOut Q) (hS : S w.drew)
 (h : S w.drew → wpAnyH P .any ops Q S ops.size (Array.replicate ops.size false) a w.drew) : (Code.region id ops true).wpIn (Fence.wide.inRound l) n P Q a w :=
 wpIn_region_any hm (wpAny_wide (noDefer_all hd) hL _ _ _ _ (wpAny_of_held _ _ _ _ (h hS)))
theorem wp_store_new {P : Program} {o : Oper} {a : Act} {w : World} {K : Act → World → Prop} {Q : Exit → Act → World → Prop} (ty : TypeId) (cells : List Value) (x y : Operand) (old : List Value) (ho : o.op = .store ty x y)
 (hx : a.eval x = .pointer (some ⟨w.heap.size, 0, none⟩)) (hy : a.eval y = .agg cells.toArray) (hi : (P.info? ty).map (·.size) = some cells.length) (hold : old.length = cells.length) (h1 : cells.all (·.oneCell') = true)
 (h : K (a.put o.dst undef) (w.alloc (.cells cells.toArray ty))) : o.wp P a (w.alloc (.cells old.toArray ty)) K Q :=
 wp_store_row ty x y ho w.heap.size cells.toArray hx hy ty old.toArray (heap_alloc_new w _) (by simpa using hi) (by simpa using hold) (by simpa using h1) (by rw [setRow_new]; exact h)
theorem if_plain {o : Oper} {y : Nat → Option Bool} {p q : Prop} (h : o.guard = none) (hp : p) : if Region.wanted o y = true then p else q := by
 have e : Region.wanted o y = true := by unfold Region.wanted; rw [h]
 rw [if_pos e]; exact hp
theorem wp_store_newd {P : Program} {o : Oper} {a : Act} {w : World} {K : Act → World → Prop} {Q : Exit → Act → World → Prop} (ty : TypeId) (cells : List Value) (x y : Operand) (old : List Value) (ho : o.op = .store ty x y)
 (hx : a.eval x = .pointer (some ⟨w.heap.size, 0, none⟩)) (hy : a.eval y = .agg cells.toArray) (hi : (P.info? ty).map (·.size) = some cells.length) (hold : old.length = cells.length) (h1 : cells.all (·.oneCell') = true)
 (h : K (a.put o.dst undef) (w.alloc (.cells cells.toArray ty)).drew) : o.wp P a (w.alloc (.cells old.toArray ty)).drew K Q :=
 wp_store_new (w := w.drew) ty cells x y old ho hx hy hi hold h1 h
end Go.Proofs.YtfflmmbhpchloaaGreatDoor
end
