/- Each theorem here says its own conditions. -/
import Derived.Test.YtfflmmbhpchloaaGreatDoorGTtc38
import Derived.Maps.AppendAt
import Derived.RangeFuncNested
import Derived.RangeFuncBound
import Derived.RangeFuncCalls
import Derived.RangeFuncLeaves
import Derived.Shelf.Abstract
import Derived.WalkKit
import Derived.OwnWalkIn
import Derived.TacticsInMore
import Derived.LoopNIn
import Derived.LoopIn
import Derived.Test.YtfflmmbhpchloaaGreatDoorGTtc2
import Derived.Shelf.Strings.Builder1
import Derived.Test.YtfflmmbhpchloaaGreatDoorGTtc1
import Derived.Lib.IndexLaws
set_option maxRecDepth 100000
set_option maxHeartbeats 16000000
section
open Go.RowKit
open Go.Proofs.YtfflmmbhpchloaaGreatDoor.V
namespace Go.Proofs.YtfflmmbhpchloaaGreatDoor
theorem define_ents {T T' : Tb} {s : ByteArray} {e : Ent} {p : PL} (h : T.define s e p = .ok T') : ∃ l, T'.ents = T.ents ++ l := by
 unfold Tb.define at h
 split at h
 ·cases h
 ·cases hv : T.vec (p.1, p.2.1) with
  | none => rw [hv] at h; cases h
  | some u =>
    rw [hv] at h
    dsimp only at h
    split at h
    ·cases h
    ·injection h with h; subst h; exact ⟨_, rfl⟩
theorem row_ents {T T' : Tb} {w : List ByteArray} (h : T.row w = .ok T') : ∃ l, T'.ents = T.ents ++ l := by
 unfold Tb.row at h
 cases w with
 | nil => injection h with h; subst h; exact ⟨[], by simp⟩
 | cons k r =>
   dsimp only at h
   split at h
   ·unfold Tb.addBase at h
    split at h
    ·cases h
    ·split at h
     ·cases h
     ·split at h
      ·cases h
      ·split at h
       ·cases h
       ·injection h with h; subst h; exact ⟨_, rfl⟩
   ·split at h
    ·unfold Tb.addPrefix at h
     split at h
     ·cases h
     ·split at h
      ·cases h
      ·split at h
       ·injection h with h; subst h; exact ⟨[], by simp⟩
       ·cases h
    ·split at h
     ·unfold Tb.addUnit at h
      split at h
      ·cases h
      ·split at h
       ·cases h
       ·split at h
        ·cases h
        ·split at h
         ·cases h
         ·split at h
          ·exact define_ents h
          ·split at h
           ·cases h
           ·exact define_ents h
     ·split at h
      ·unfold Tb.addQuantity at h
       split at h
       ·cases h
       ·split at h
        ·cases h
        ·split at h
         ·cases h
         ·split at h
          ·cases h
          ·injection h with h; subst h; exact ⟨[], by simp⟩
      ·split at h
       ·unfold Tb.addAlias at h
        split at h
        ·cases h
        ·split at h
         ·cases h
         ·injection h with h; subst h; exact ⟨[], by simp⟩
       ·split at h
        ·cases h
        ·injection h with h; subst h; exact ⟨[], by simp⟩
theorem row_keeps {T T' : Tb} {w : List ByteArray} {s : ByteArray} {e : Ent} (h : T.row w = .ok T') (he : lookL T.ents s = some e) : lookL T'.ents s = some e := by
 obtain ⟨l, hl⟩ := row_ents h
 rw [hl]
 exact lookL_more he
def Light (rs : List (Int × List ByteArray)) : Prop := rs.length ≤ 60 ∧ ∀ r ∈ rs, r.2.length ≤ 30 ∧ ∀ s ∈ r.2, s.size ≤ 120
def HvR (W : World) (rs : List (Int × List ByteArray)) (e : Ending) (w' : World) : Prop := ∃ b, e = .returned (.bool b) ∧ (b = false ↔ Light rs) ∧ w' = W
section
variable {W : World} {A : Option Addr} {n c : Nat} {rs : List (Int × List ByteArray)}
theorem heavy_h (h : LW W W.heap.size A rs) (hn : n = rs.length) : Calls Tryz.prog 24 #[.slice A n c] W (HvR W rs) := by
 have HN := khide hn
 have HH := khide h
 have HT : Hid (¬ Light rs → HvR W rs (.returned (.bool true)) W) := fun h => ⟨true, rfl, ⟨(fun e => by cases e), fun e => absurd e h⟩, rfl⟩
 by_cases h60 : 60 < n
 ·have d1 : decide ((60 : Int) < (n : Int)) = true := decide_eq_true (by omega)
  have d2 : decide (60 < n) = true := decide_eq_true h60
  have HNL : Hid (¬ Light rs) := fun hl => by have h1 := hl.1; omega
  clear h hn h60
  go_enter Tryz.func24, Tryz.ntmps24
  go_wp2
  go_ret
  exact HT.out HNL.out
 have d1 : decide ((60 : Int) < (n : Int)) = false := decide_eq_false (by omega)
 have d2 : decide (60 < n) = false := decide_eq_false h60
 have hb60 : n ≤ 60 := by omega
 clear h hn h60
 go_enter Tryz.func24, Tryz.ntmps24
 go_wp2
 go_loop [3, 4] (fun iv kv => ∃ k : Nat, k ≤ n ∧ iv = .int .i64 (k : Int) ∧ Hid (∀ r ∈ rs.take k, r.2.length ≤ 30 ∧ ∀ s ∈ r.2, s.size ≤ 120)) (fun iv _ => n - (intOf iv).toNat)
 case atStart => exact ⟨0, Nat.zero_le _, rfl, fun r hr => by simp at hr⟩
 case round =>
  obtain ⟨k, hk, rfl, hall⟩ := hrel
  by_cases hlt : k < n
  ·obtain ⟨r, hr⟩ : ∃ r, rs[k]? = some r := ⟨rs[k]'(by rw [← HN.out]; exact hlt), List.getElem?_eq_getElem (by rw [← HN.out]; exact hlt)⟩
   obtain ⟨g, og, rfl, hg, hcs⟩ := HH.out (by rw [← HN.out]; omega)
   obtain ⟨A2, c2, _, hc1, hmc, hss⟩ := hcs k r hr
   have hcut : rs.take (k + 1) = rs.take k ++ [r] := by
    rw [List.take_add_one, hr]; rfl
   have HC := khide hcut
   have HRM := khide (List.mem_of_getElem? hr)
   obtain ⟨r1, r2⟩ := r
   obtain ⟨m, hm⟩ : ∃ m, r2.length = m := ⟨_, rfl⟩
   have hc1' : W.cell? ⟨g, og + k * 2 + 1, none⟩ = some (.slice A2 m c2) := by rw [← hm]; exact hc1
   have HS := khide hss
   have HMM := khide hm
   clear hcs hc1 hmc hss hr hcut hm
   by_cases h30 : 30 < m
   ·have e1 : decide ((30 : Int) < (m : Int)) = true := decide_eq_true (by omega)
    have e2 : decide (30 < m) = true := decide_eq_true h30
    have HNL : Hid (¬ Light rs) := fun hl => by have h1 := (hl.2 _ HRM.out).1; rw [HMM.out] at h1; omega
    clear h30
    go_wp2
    go_ret
    exact HT.out HNL.out
   ·have e1 : decide ((30 : Int) < (m : Int)) = false := decide_eq_false (by omega)
    have e2 : decide (30 < m) = false := decide_eq_false h30
    have hm30 : m ≤ 30 := by omega
    clear h30
    go_wp2
    go_loop [4] (fun jv => ∃ j : Nat, j ≤ m ∧ jv = .int .i64 (j : Int) ∧ Hid (∀ s ∈ r2.take j, s.size ≤ 120)) (fun jv => m - (intOf jv).toNat)
    case atStart => exact ⟨0, Nat.zero_le _, rfl, fun s hs => by simp at hs⟩
    case round =>
     obtain ⟨j, hj, rfl, halj⟩ := hrel
     by_cases hjm : j < m
     ·have hjl : j < r2.length := by rw [HMM.out]; exact hjm
      obtain ⟨ad, rfl, hb, hcell⟩ := HS.out.at_ hjl
      obtain ⟨s, hs⟩ : ∃ s, s = r2[j] := ⟨_, rfl⟩
      have hcut : r2.take (j + 1) = r2.take j ++ [s] := by rw [List.take_succ_eq_append_getElem hjl, hs]
      have HC2 := khide hcut
      rw [← hs] at hcell
      have HSM : Hid (s ∈ r2) := by unfold Hid; rw [hs]; exact List.getElem_mem _
      clear hs hcut hjl
      by_cases h120 : 120 < s.size
      ·have f1 : decide ((120 : Int) < (s.size : Int)) = true := decide_eq_true (by omega)
       have f2 : decide (120 < s.size) = true := decide_eq_true h120
       have HNL : Hid (¬ Light rs) := fun hl => by have h1 := (hl.2 _ HRM.out).2 _ HSM.out; omega
       clear h120
       go_wp2
       go_ret
       exact HT.out HNL.out
      ·have f1 : decide ((120 : Int) < (s.size : Int)) = false := decide_eq_false (by omega)
       have f2 : decide (120 < s.size) = false := decide_eq_false h120
       have HLE : Hid (s.size ≤ 120) := Nat.le_of_not_lt h120
       go_wp2
       go_round
       case rel =>
        refine ⟨j + 1, by omega, by go_num, ?_⟩
        unfold Hid
        rw [HC2.out]
        intro u hu
        rcases List.mem_append.1 hu with hu | hu
        ·exact halj.out u hu
        ·rw [List.mem_singleton.1 hu]; exact HLE.out
       case measure => simp [intOf]; omega
     ·obtain rfl : j = m := by omega
      have HA : Hid (∀ s ∈ r2, s.size ≤ 120) := by
       have h1 := halj.out
       rwa [List.take_of_length_le (by rw [HMM.out]; exact Nat.le_refl _)] at h1
      go_wp2
      go_round
      case rel =>
       refine ⟨k + 1, by omega, by go_num, ?_⟩
       unfold Hid
       rw [HC.out]
       intro u hu
       rcases List.mem_append.1 hu with hu | hu
       ·exact hall.out u hu
       ·rw [List.mem_singleton.1 hu]; exact ⟨by show r2.length ≤ 30; rw [HMM.out]; exact hm30, HA.out⟩
      case measure => simp [intOf]; omega
  ·obtain rfl : k = n := by omega
   have HA : Hid (Light rs) := by
    have h1 := hall.out
    rw [List.take_of_length_le (by rw [HN.out]; exact Nat.le_refl _)] at h1
    exact ⟨by rw [← HN.out]; exact hb60, h1⟩
   go_wp2
   go_ret
   exact ⟨false, rfl, ⟨fun _ => HA.out, fun _ => rfl⟩, rfl⟩
end
end Go.Proofs.YtfflmmbhpchloaaGreatDoor
end
section
open Go.RowKit
namespace Go.Proofs.YtfflmmbhpchloaaGreatDoor
theorem add_plT (b o i : Nat) : (⟨b, o, none⟩ : Addr).add i = ⟨b, o + i, none⟩ := by unfold Addr.add; split <;> simp_all
def RX (w : World) (B : Nat) (xs : List Value) (rs : List (Int × List ByteArray)) : Prop :=
 xs.length = rs.length * 2 ∧ ∀ j r, rs[j]? = some r → ∃ A' c, xs[j * 2]? = some (.int .i64 r.1) ∧ xs[j * 2 + 1]? = some (.slice A' r.2.length c) ∧ r.2.length ≤ c ∧ RS w B A' r.2
section
variable {w w' : World} {B base : Nat} {xs : List Value} {rs : List (Int × List ByteArray)} {A : Option Addr} {n c : Nat}
theorem RX.keep (h : RX w B xs rs) (hk : ∀ p : Addr, p.block < B → w'.cell? p = w.cell? p) : RX w' B xs rs :=
 ⟨h.1, fun j r hj => by
   obtain ⟨A', c, h1, h2, h3, h4⟩ := h.2 j r hj
   exact ⟨A', c, h1, h2, h3, h4.keep hk⟩⟩
theorem RX.nil : RX w B [] [] := ⟨rfl, fun j r hj => by simp at hj⟩
theorem RX.snoc (h : RX w B xs rs) {l : Int} {ws : List ByteArray} {k : Nat} (hk : k = ws.length) (hc : k ≤ c) (hs : RS w B A ws) : RX w B (xs ++ [.int .i64 l, .slice A k c]) (rs ++ [(l, ws)]) := by
 subst hk
 refine ⟨by rw [List.length_append, List.length_append, h.1]; simp; omega, fun j r hj => ?_⟩
 rcases Nat.lt_trichotomy j rs.length with h1 | h1 | h1
 ·rw [List.getElem?_append_left h1] at hj
  obtain ⟨A', c', g1, g2, g3, g4⟩ := h.2 j r hj
  exact ⟨A', c', by rw [List.getElem?_append_left (by rw [h.1]; omega)]; exact g1, by rw [List.getElem?_append_left (by rw [h.1]; omega)]; exact g2, g3, g4⟩
 ·subst h1
  rw [List.getElem?_append_right (Nat.le_refl _), Nat.sub_self] at hj
  injection hj with hj
  subst hj
  refine ⟨A, c, ?_, ?_, hc, hs⟩
  ·rw [List.getElem?_append_right (by rw [h.1]; exact Nat.le_refl _), h.1, Nat.sub_self]; rfl
  ·rw [List.getElem?_append_right (by rw [h.1]; omega), h.1, show rs.length * 2 + 1 - rs.length * 2 = 1 by omega]; rfl
 ·rw [List.getElem?_eq_none (by simp; omega)] at hj
  cases hj
theorem RX.one (h : RX w B xs rs) : ∀ u ∈ xs, u.oneCell' = true := fun u hu => by
 obtain ⟨k, hk⟩ := List.mem_iff_getElem?.1 hu
 have hl : k < xs.length := (List.getElem?_eq_some_iff.1 hk).1
 have hj : k / 2 < rs.length := by have := h.1; omega
 obtain ⟨A', c', h1, h2, -, -⟩ := h.2 (k / 2) rs[k / 2] (List.getElem?_eq_getElem hj)
 rcases Nat.mod_two_eq_zero_or_one k with h0 | h0
 ·rw [show k / 2 * 2 = k by omega, hk] at h1
  injection h1 with h1
  rw [h1]; rfl
 ·rw [show k / 2 * 2 + 1 = k by omega, hk] at h2
  injection h2 with h2
  rw [h2]; rfl
theorem LW.cells (h : LW w B A rs) (hn : 0 < rs.length) : ∃ ad xs, A = some ad ∧ RX w B xs rs ∧ ∀ j u, xs[j]? = some u → w.cell? (ad.add j) = some u := by
 obtain ⟨g, o, rfl, hg, hc⟩ := h hn
 have ex : ∀ k, k < rs.length * 2 → ∃ u, w.cell? ⟨g, o + k, none⟩ = some u := fun k hk => by
  obtain ⟨A', c', h1, h2, -, -⟩ := hc (k / 2) rs[k / 2] (List.getElem?_eq_getElem (by omega))
  rcases Nat.mod_two_eq_zero_or_one k with h0 | h0
  ·rw [show k / 2 * 2 = k by omega] at h1
   exact ⟨_, h1⟩
  ·rw [show o + k / 2 * 2 + 1 = o + k by omega] at h2
   exact ⟨_, h2⟩
 have hxs : ∀ j u, ((List.range (rs.length * 2)).map (fun k => (w.cell? ⟨g, o + k, none⟩).getD undef))[j]? = some u → w.cell? ⟨g, o + j, none⟩ = some u := fun j u hu => by
  rw [List.getElem?_map] at hu
  cases hj : (List.range (rs.length * 2))[j]? with
  | none => rw [hj] at hu; cases hu
  | some i =>
    obtain ⟨hl, he⟩ := List.getElem?_eq_some_iff.1 hj
    rw [List.getElem_range] at he
    subst he
    rw [hj] at hu
    obtain ⟨u', hu'⟩ := ex j (by simpa using hl)
    rw [Option.map_some, hu'] at hu
    injection hu with hu
    rw [hu', ← hu]; rfl
 have hxs2 : ∀ j u, j < rs.length * 2 → w.cell? ⟨g, o + j, none⟩ = some u → ((List.range (rs.length * 2)).map (fun k => (w.cell? ⟨g, o + k, none⟩).getD undef))[j]? = some u := fun j u hj hu => by
  rw [List.getElem?_map, List.getElem?_range hj, Option.map_some, hu]; rfl
 refine ⟨⟨g, o, none⟩, (List.range (rs.length * 2)).map (fun k => (w.cell? ⟨g, o + k, none⟩).getD undef), rfl, ⟨by simp, fun j r hj => ?_⟩, fun j u hu => ?_⟩
 ·have hl := (List.getElem?_eq_some_iff.1 hj).1
  obtain ⟨A', c', h1, h2, h3, h4⟩ := hc j r hj
  exact ⟨A', c', hxs2 _ _ (by omega) h1, hxs2 _ _ (by omega) h2, h3, h4⟩
 ·rw [add_plT]
  exact hxs j u hu
theorem lw_own {v : Value} (h : w.ownsRow base 72 2 v n xs) (hn : n = rs.length) (hx : RX w B xs rs) (hB : B ≤ w.heap.size) : ∃ A c, v = .slice A n c ∧ n ≤ c ∧ LW w w.heap.size A rs := by
 subst hn
 rcases h.2 with ⟨h0, h1⟩ | ⟨g, cap, cur, h0, h1, h2, h3, _⟩
 ·refine ⟨none, 0, ?_, by omega, fun hn => by omega⟩
  rw [h0, h1]
 ·refine ⟨_, cap, h0, h3, fun hn => ⟨g, 0, rfl, (Array.getElem?_eq_some_iff.1 h2).1, fun j r hj => ?_⟩⟩
  obtain ⟨A', c', g1, g2, g3, g4⟩ := hx.2 j r hj
  have hc := h.cells (g := g) (by rw [h0]; rfl)
  have c1 := hc _ _ g1
  have c2 := hc _ _ g2
  rw [add_plT] at c1 c2
  exact ⟨A', c', c1, by rw [show 0 + j * 2 + 1 = 0 + (j * 2 + 1) by omega]; exact c2, g3, g4.more hB⟩
theorem at_newsT {W : World} {b : Nat} {xs : List Value} (h : At W b xs) : ∀ j u, xs[j]? = some u → W.cell? ((⟨b, 0, none⟩ : Addr).add j) = some u := fun j u hu => by
 have e : (⟨b, 0, none⟩ : Addr).add j = ⟨b, j, none⟩ := by unfold Addr.add; split <;> simp_all
 rw [e]; exact At.ci h hu
theorem infoRowT : (Tryz.prog.info? 72).map (fun i => (i.zero, i.size, i.bytes)) = some (some (.agg #[.int .i64 0, .slice none 0 0]), 2, 32) := by kernel_rfl
theorem app_nilT {P : Program} {w : World} (base : Nat) (t ty e : TypeId) (i : TypeInfo) (size : Nat) (ht : P.underlying t = some (.slice e)) (hi : P.info? e = some i)
 (v : Value) (n : Nat) (xs : List Value) (hown : w.ownsRow base e size v n xs) (c : Nat) : (Builtin.append_ #[t, t] ty #[v, .slice none 0 c]).run P w = .ok v w := by
 rcases hown.2 with ⟨rfl, rfl⟩ | ⟨g, cap, cur, rfl, _, _, hnc, _⟩
 ·simp [Builtin.append_, run_underlying ht, sizeOf, typeInfo, hi, Builtin.lenOf, Builtin.firstCells]
 ·simp [Builtin.append_, run_underlying ht, sizeOf, typeInfo, hi, Builtin.lenOf, Builtin.firstCells, hnc, storeCells]
theorem app_rowsT (ty : TypeId) {v : Value} (hown : w.ownsRow base 72 2 v 0 []) (hl : LW w B A rs) (hn : n = rs.length) (h60 : n ≤ 60) (hbase : base ≤ w.heap.size) :
 ∃ v' w' xs, (Builtin.append_ #[70, 70] ty #[v, .slice A n c]).run Tryz.prog w = .ok v' w' ∧ w'.ownsRow base 72 2 v' n xs ∧ RX w B xs rs ∧ w.grownBy w' v.ownBlock := by
 obtain ⟨i, hi, hz, h1, h2⟩ := info_parts infoRowT
 by_cases h0 : rs = []
 ·subst h0
  subst hn
  cases A with
  | none => exact ⟨v, w, [], app_nilT base 70 ty 72 i 2 Tryz.underlying70 hi v 0 [] hown c, hown, RX.nil, World.grownBy.refl w _⟩
  | some ad =>
    obtain ⟨v', w', k1, k2, k3, _, _⟩ := run_append_own_at (P := Tryz.prog) w base 70 ty 72 i _ 2 32 Tryz.underlying70 hi hz h1 h2 rfl (by decide) v 0 [] hown ad 0 c [] (by simp) (by simp) (by simp) (by simp only [maxLen]; omega) (by omega) hbase
    exact ⟨v', w', [], k1, k2, RX.nil, k3⟩
 ·obtain ⟨ad, xs, rfl, hx, hc⟩ := hl.cells (List.length_pos_iff.2 h0)
  obtain ⟨v', w', k1, k2, k3, _, _⟩ := run_append_own_at (P := Tryz.prog) w base 70 ty 72 i _ 2 32 Tryz.underlying70 hi hz h1 h2 rfl (by decide) v 0 [] hown ad n c xs (by rw [hn]; exact hx.1) hc hx.one (by simp only [maxLen]; omega) (by omega) hbase
  exact ⟨v', w', xs, k1, by simpa using k2, hx, k3⟩
theorem wp_rowsT {o : Oper} {a : Act} {K : Act → World → Prop} {Q : Exit → Act → World → Prop} (s x : Operand)
 (ho : o.op = .call { callee := .builtin .append, args := #[s, x], argTypes := #[70, 70] }) {v : Value} (hs : a.eval s = v) (hx : a.eval x = .slice A n c)
 (hown : w.ownsRow base 72 2 v 0 []) (hl : LW w B A rs) (hn : n = rs.length) (h60 : n ≤ 60) (hbase : base ≤ w.heap.size)
 (h : ∀ v' w' xs, w'.ownsRow base 72 2 v' n xs → RX w B xs rs → w.grownBy w' v.ownBlock → K (a.put o.dst v') w') : o.wp Tryz.prog a w K Q := by
 obtain ⟨v', w', xs, hr, h2, h3, h4⟩ := app_rowsT (c := c) o.type hown hl hn h60 hbase
 unfold Oper.wp execOp
 simp only [ho, resolve, invoke, builtin, Sem.run_bind, Sem.run_pure, Result.andThen_ok, List.map_toArray, List.map_cons, List.map_nil, hs, hx, hr]
 exact h v' w' xs h2 h3 h4
theorem wp_rowT {o : Oper} {a : Act} {K : Act → World → Prop} {Q : Exit → Act → World → Prop} (s x : Operand)
 (ho : o.op = .call { callee := .builtin .append, args := #[s, x], argTypes := #[70, 70] }) {v : Value} (hs : a.eval s = v) {q : Nat} (hx : a.eval x = .slice (some ⟨q, 0, none⟩) 1 1)
 (hown : w.ownsRow base 72 2 v n xs) (h60 : n ≤ 60) {l : Int} {A2 : Option Addr} {m c2 : Nat} (hq : At w q [.int .i64 l, .slice A2 m c2]) (hbase : base ≤ w.heap.size)
 (h : ∀ v' w', w'.ownsRow base 72 2 v' (n + 1) (xs ++ [.int .i64 l, .slice A2 m c2]) → w.grownBy w' v.ownBlock → K (a.put o.dst v') w') : o.wp Tryz.prog a w K Q := by
 obtain ⟨i, hi, hz, h1, h2⟩ := info_parts infoRowT
 exact wp_append_own w s x 70 ho base 72 i _ 2 32 Tryz.underlying70 hi hz h1 h2 rfl (by decide) v n xs hs hown ⟨q, 0, none⟩ 1 1 [.int .i64 l, .slice A2 m c2] hx rfl (at_newsT hq)
  (by intro u hu; simp at hu; rcases hu with rfl | rfl <;> rfl) (by simp only [maxLen]; omega) (by omega) hbase (fun v' w' k1 k2 _ => h v' w' k1 k2)
theorem LW.more {B' : Nat} (h : LW w B A rs) (hB : B ≤ B') : LW w B' A rs := fun hn => by
 obtain ⟨g, o, e, hb, hc⟩ := h hn
 refine ⟨g, o, e, by omega, fun j r hj => ?_⟩
 obtain ⟨A', c, h1, h2, h3, h4⟩ := hc j r hj
 exact ⟨A', c, h1, h2, h3, h4.more hB⟩
theorem lw_one {q m c2 : Nat} {l : Int} {A2 : Option Addr} {ws : List ByteArray} (hq : At w q [.int .i64 l, .slice A2 m c2]) (hm : m = ws.length) (hmc : m ≤ c2) (hR : RS w w.heap.size A2 ws) : LW w w.heap.size (some ⟨q, 0, none⟩) [(l, ws)] := fun _ => by
 subst hm
 refine ⟨q, 0, rfl, hq.lt, fun j r hj => ?_⟩
 cases j with
 | zero => injection hj with hj; subst hj; exact ⟨A2, c2, hq.c0, hq.c1, hmc, hR⟩
 | succ j => cases hj
theorem rows_nz : ∀ {rs : List (Int × List ByteArray)} {T : Tb} {z : Int × Int}, T.rows rs = .error z → z.2 ≠ 0
 | [], _, _, h => by cases h
 | r :: l, T, z, h => by
   rw [rows_cons] at h
   cases hr : T.row r.2 with
   | error v => rw [hr] at h; injection h with h; rw [← h]; exact row_nz hr
   | ok T' => rw [hr] at h; exact rows_nz h
end
end Go.Proofs.YtfflmmbhpchloaaGreatDoor
end
section
namespace Go.Proofs.YtfflmmbhpchloaaGreatDoor.E
open Go.RowKit Go.Shelf
def SeqAt (F : Fence) (n : Nat) (P : Program) (g : Nat) (lb : Array Value) (B : Nat) (Kp : World → World → Prop) (xs : List ByteArray) (w : World) : Prop :=
 ∀ (l : Nat) (J Jx : Nat → World → Prop) (W : World), Kp w W → (∀ k V v, J k V → J k (V.setCell ⟨B, 0, none⟩ v)) →
  (∀ k x V, J k V → xs[k]? = some x → YieldAt F (n - 1) P l #[.string x] V fun e V' => (e = .returned (.bool true) ∧ J (k + 1) V' ∧ Kp V V') ∨ (e = .returned (.bool false) ∧ Jx (k + 1) V')) →
  J 0 W → CallsIn F n P g (#[.func (.yield l) #[] #[]] ++ lb) W fun e W' => (∃ v, e = .returned v) ∧ (J xs.length W' ∨ ∃ k, k ≤ xs.length ∧ Jx k W')
def AtPost (Kp : World → World → Prop) (I : Nat → World → Prop) (Ix : Code → Nat → World → Prop) (k : Nat) (V : World) : Exit → Act → World → Prop
 | .normal, _, V' => KeepsOthers V V' ∧ Kp V V' ∧ I k V'
 | .ret, _, V' => KeepsOthers V V' ∧ Ix .ret k V'
 | .exit id, _, V' => KeepsOthers V V' ∧ Ix (.exit id) k V'
 | .goto t, _, V' => KeepsOthers V V' ∧ Ix (.goto t) k V'
 | .panic _, _, _ => False
 | .outgrown, _, _ => False
def Live (d : Nat) (r : Loop) (V : World) : Prop := V.heap[d + 1]? = some (.loop r) ∧ V.heap[d]? = some (.deferred (some []))
section
variable {d : Nat} {r r' : Loop} {V V' : World} {P : Program} {I : Nat → World → Prop} {k : Nat}
theorem Live.lt (h : Live d r V) : d + 1 < V.heap.size := (Array.getElem?_eq_some_iff.1 h.1).1
theorem Live.put (h : Live d r V) (r' : Loop) : Live d r' (V.putObj (d + 1) (.loop r')) := ⟨World.putObj_heap_same h.lt, (World.putObj_heap_other (by omega)).trans h.2⟩
theorem Live.keep (h : Live d r V) (hk : KeepsOthers V V') : Live d r V' := ⟨hk.same _ _ h.1 rfl, hk.same _ _ h.2 rfl⟩
theorem Live.set (h : Live d r V) {B : Nat} (hB : B < d) (v : Value) : Live d r (V.setCell ⟨B, 0, none⟩ v) :=
 ⟨(Below.heap_setCell _ _ _ _ (by show d + 1 ≠ B; omega)).trans h.1, (Below.heap_setCell _ _ _ _ (by show d ≠ B; omega)).trans h.2⟩
theorem OwnFrom.live {w : World} (hI : OwnFrom d I) (h : Live d r V) (hi : I k V) (r' : Loop) : I k (V.putObj (d + 1) (.loop r')) := OwnFrom.putObj hI _ hi (by omega) h.1 rfl
theorem Live.fin (h : Live d { r with state := .busy } V) (jump : Option Code) :
 (Instr.endRound (d + 1) jump).run P V = .ok (.bool jump.isNone) (V.putObj (d + 1) (.loop { r with state := if jump.isNone then .ready else .done, pending := jump })) := by
 have h2 := run_endRound (P := P) (r := { r with state := .busy }) jump h.1
 exact h2
end
variable {F : Fence} {n : Nat} {P : Program}
theorem wpIn_range_at {g : Operand} {ps : Array Tmp} {assign body : Code} {Q : Exit → Act → World → Prop} {a : Act} {w : World}
 (hro : F.round = none) (h1 : 1 ≤ n) {gf : Nat} {lb : Array Value} (hg : a.eval g = .func (.func gf) #[] lb) (hFg : F.fn gf) (eg : ∀ args w, (callFunc gf args).run P w = .ok (.enter gf args) w)
 {B : Nat} (hB : B < w.heap.size) {Kp : World → World → Prop} {xs : List ByteArray} (hseq : SeqAt F (n - 1) P gf lb B Kp xs w) (hps : ps.size = 1)
 (hKr : ∀ V V' : World, (∀ i, i < w.heap.size → V'.heap[i]? = V.heap[i]?) → Kp V V') (hKt : ∀ {A C D : World}, Kp A C → Kp C D → Kp A D)
 (I : Nat → World → Prop) (Ix : Code → Nat → World → Prop) (hI : OwnFrom w.heap.size I) (hIx : ∀ c, OwnFrom w.heap.size (Ix c)) (hIB : ∀ k V v, I k V → I k (V.setCell ⟨B, 0, none⟩ v)) (h0 : I 0 w) (a₁ : ByteArray → Act)
 (hassign : ∀ (l : Nat) (x : ByteArray) (V : World) (K : Act → World → Prop), K (a₁ x) V →
   assign.wpIn (F.inRound l) (n - 1 - 1) P (Exit.then K (fun _ _ _ => False)) { tmps := (ps.zip #[.string x]).foldl (fun t (p, v) => t.setIfInBounds p v) a.tmps, defers := [] } V)
 (hbody : ∀ (l k : Nat) (x : ByteArray) (V : World), I k V → xs[k]? = some x → w.heap.size < V.heap.size → body.wpIn (F.inRound l) (n - 1 - 1) P (AtPost Kp I Ix (k + 1) V) (a₁ x) V)
 (hdone : ∀ (D : Nat) (V : World), w.heap.size ≤ D → I xs.length V → V.heap[D]? = some (.deferred (some [])) → Q .normal { a with defers := { target := .collected D, args := #[] } :: a.defers } V)
 (hstop : ∀ (D : Nat) (c : Code) (k : Nat) (V : World), w.heap.size ≤ D → Ix c k V → V.heap[D]? = some (.deferred (some [])) → c.wpIn F n P Q { a with defers := { target := .collected D, args := #[] } :: a.defers } V) :
 (Code.rangeFunc g ps assign body).wpIn F n P Q a w := by
 refine wpIn_rangeFunc fun fn hfn => ?_
 rw [hro]
 obtain ⟨r0, hr0⟩ : ∃ r0 : Loop, r0 = { state := .ready, pending := none, fn, tmps := a.tmps, params := ps, assign, body, defers := w.heap.size } := ⟨_, rfl⟩
 obtain ⟨W1, hW1⟩ : ∃ W1, W1 = (w.alloc (.deferred (some []))).alloc (.loop r0) := ⟨_, rfl⟩
 have hlow : ∀ i, i < w.heap.size → W1.heap[i]? = w.heap[i]? := fun i hi => by
  rw [hW1]; exact (Below.heap_alloc _ _ i (by simp; omega)).trans (Below.heap_alloc _ _ i hi)
 have hl1 : Live w.heap.size r0 W1 := by
  rw [hW1]
  refine ⟨?_, (Below.heap_alloc _ _ _ (by simp)).trans (World.alloc_heap_new w _)⟩
  have := World.alloc_heap_new (w.alloc (.deferred (some []))) (.loop r0)
  rwa [World.size_alloc] at this
 have hI1 : I 0 W1 := by rw [hW1]; exact hI.alloc _ (hI.alloc _ h0)
 refine ⟨w.heap.size + 1, [{ target := .collected w.heap.size, args := #[] }], W1, { target := .fn (.func gf) lb, args := #[.func (.yield (w.heap.size + 1)) #[] #[]] }, W1, gf,
  #[.func (.yield (w.heap.size + 1)) #[] #[]] ++ lb, W1, ?_, ?_, ?_, ?_, fun _ => h1, ?_⟩
 ·rw [hW1, hr0]; exact run_enterLoop_outer _ _ _ _ _
 ·simp only [resolve, hg]
  simp [go_sem]
 ·intro f' hf'; simp [Target.leads] at hf'; subst hf'; exact hFg
 ·simp [invoke, go_sem, eg]
 have hput : ∀ (V : World) (o : Obj) (i : Nat), i < w.heap.size → (V.putObj (w.heap.size + 1) o).heap[i]? = V.heap[i]? := fun V o i hi => World.putObj_heap_other (by omega)
 refine (hseq (w.heap.size + 1) (fun k V => I k V ∧ Live w.heap.size r0 V) (fun k V => ∃ c, Ix c k V ∧ Live w.heap.size { r0 with state := .done, pending := some c } V) W1 (hKr _ _ hlow)
  (fun k V v h => ⟨hIB k V v h.1, h.2.set hB v⟩) ?_ ⟨hI1, hl1⟩).mono ?_
 ·rintro k x V ⟨hi, hl⟩ hx
  have hy := run_yield (P := P) (args := #[.string x]) hl.1 (by rw [hr0]; exact hps.symm)
  refine ⟨_, _, _, _, hy, roundIn_of_wpIn (by rw [hr0]; exact hfn) ?_⟩
  have ha := hassign (w.heap.size + 1) x V (fun a₁ w₁ => ∃ w₂, (Instr.beginRound (w.heap.size + 1)).run P w₁ = .ok () w₂ ∧ body.wpIn (F.inRound (w.heap.size + 1)) (n - 1 - 1) P (roundPost P (w.heap.size + 1) fun e V' => (e = .returned (.bool true) ∧ (I (k + 1) V' ∧ Live w.heap.size r0 V') ∧ Kp V V') ∨ (e = .returned (.bool false) ∧ ∃ c, Ix c (k + 1) V' ∧ Live w.heap.size { r0 with state := .done, pending := some c } V')) a₁ w₂)
   ⟨_, run_beginRound hl.1 (by rw [hr0]), ?_⟩
  ·rw [hr0] at ha ⊢; exact ha
  ·have hlb := hl.put { r0 with state := .busy }
   have hkb : Kp V (V.putObj (w.heap.size + 1) (.loop { r0 with state := .busy })) := hKr _ _ (hput V _)
   refine wpIn_mono (hbody _ k x _ (OwnFrom.live (w := w) hI hl hi _) hx (by have := hlb.lt; omega)) ?_
   rintro e a3 V3 hp
   have out : ∀ (c : Code), KeepsOthers (V.putObj (w.heap.size + 1) (.loop { r0 with state := .busy })) V3 → Ix c (k + 1) V3 → ∃ v V4, (Instr.endRound (w.heap.size + 1) (some c)).run P V3 = .ok v V4 ∧ ((Ending.returned v = .returned (.bool true) ∧ (I (k + 1) V4 ∧ Live w.heap.size r0 V4) ∧ Kp V V4) ∨ (Ending.returned v = .returned (.bool false) ∧ ∃ c, Ix c (k + 1) V4 ∧ Live w.heap.size { r0 with state := .done, pending := some c } V4)) := fun c hk hi3 => by
    have hl3 := hlb.keep hk
    exact ⟨_, _, hl3.fin (some c), .inr ⟨rfl, c, OwnFrom.live (w := w) (hIx c) hl3 hi3 _, hl3.put _⟩⟩
   cases e with
   | normal =>
     obtain ⟨hk3, hkp3, hi3⟩ := hp
     have hl3 := hlb.keep hk3
     refine ⟨_, _, hl3.fin none, .inl ⟨rfl, ⟨OwnFrom.live (w := w) hI hl3 hi3 _, ?_⟩, hKt (hKt hkb hkp3) (hKr _ _ (hput V3 _))⟩⟩
     have := hl3.put r0
     rw [hr0] at this ⊢
     exact this
   | ret => exact out _ hp.1 hp.2
   | exit id => exact out _ hp.1 hp.2
   | goto t => exact out _ hp.1 hp.2
   | panic ch => exact hp.elim
   | outgrown => exact hp.elim
 ·rintro e W2 ⟨⟨v, rfl⟩, (⟨hi, hl⟩ | ⟨k, _, c, hi, hl⟩)⟩
  ·refine ⟨none, _, ?_, hdone w.heap.size _ (Nat.le_refl _) (OwnFrom.live (w := w) hI hl hi { r0 with state := .exhausted }) ((World.putObj_heap_other (by omega)).trans hl.2)⟩
   have := run_endLoop (P := P) hl.1 (by rw [hr0]; simp)
   rw [this, hr0]
  ·refine ⟨some c, _, ?_, hstop w.heap.size c k _ (Nat.le_refl _) (OwnFrom.live (w := w) (hIx c) hl hi { { r0 with state := .done, pending := some c } with state := .exhausted }) ((World.putObj_heap_other (by omega)).trans hl.2)⟩
   exact run_endLoop (P := P) hl.1 (by simp)
end Go.Proofs.YtfflmmbhpchloaaGreatDoor.E
end
section
namespace Go.Proofs
open Go.Shelf Go.RowKit
end Go.Proofs
end
section
open Go.RowKit Go.Shelf
namespace Go.Proofs.YtfflmmbhpchloaaGreatDoor.E
attribute [local go_sem] Oper.semAt_some
theorem ehide {p : Prop} (h : p) : Hid p := h
structure Box3 (W : World) (P : Nat) (c : UInt8) (s : ByteArray) : Prop where
 text : Boxed W P 9 (.string s)
 sep : Boxed W (P + 1) 9 (.string ⟨#[c]⟩)
 save : Boxed W (P + 2) 3 (.int .i64 0)
def Keep3 (P : Nat) (V V' : World) : Prop := ∀ i, i < 3 → V'.heap[P + i]? = V.heap[P + i]?
section
variable {V V' V'' W : World} {P : Nat} {c : UInt8} {s t : ByteArray}
theorem Keep3.trans (h : Keep3 P V V') (h' : Keep3 P V' V'') : Keep3 P V V'' := fun i hi => (h' i hi).trans (h i hi)
theorem Box3.keep (h : Box3 V P c s) (hk : Keep3 P V V') : Box3 V' P c s := ⟨(hk 0 (by omega)).trans h.text, (hk 1 (by omega)).trans h.sep, (hk 2 (by omega)).trans h.save⟩
theorem Box3.set (h : Box3 V P c s) (t : ByteArray) : Box3 (V.setCell ⟨P, 0, none⟩ (.string t)) P c t :=
 ⟨h.text.set _, h.sep.kept (grownBy_setCell' V P _) (by simp), h.save.kept (grownBy_setCell' V P _) (by simp)⟩
def left3 (P : Nat) (W : World) : Nat := match W.cell? ⟨P, 0, none⟩ with
 | some (.string s) => s.size
 | _ => 0
theorem Box3.left (h : Box3 V P c s) : left3 P V = s.size := by unfold left3; rw [h.text.cell]
end
def pieces (c : UInt8) (s : ByteArray) : List ByteArray := (cutBy c s.data.toList).map fun l => ⟨l.toArray⟩
section
variable {c : UInt8} {s : ByteArray} {i : Nat}
theorem pieces_data : (pieces c s).map (·.data.toList) = cutBy c s.data.toList := by
 unfold pieces
 rw [List.map_map]
 conv => rhs; rw [← List.map_id (cutBy c s.data.toList)]
 exact List.map_congr_left fun l _ => by simp
theorem bytes_eq {s t : ByteArray} (h : s.data.toList = t.data.toList) : s = t := ByteArray.ext (Array.ext' h)
theorem pieces_last (h : Lib.indexByte s.data.toList c = -1) : pieces c s = [s] := by
 have hn : c ∉ s.data.toList := fun hm => by
  obtain ⟨k, hk, e⟩ := List.getElem_of_mem hm
  exact Lib.indexByte_none h k (by rw [List.getElem?_eq_getElem hk, e])
 unfold pieces
 rw [cutBy_plain hn]
 rfl
theorem pieces_more (h : Lib.indexByte s.data.toList c = (i : Int)) : i < s.size ∧ pieces c s = s.extract 0 i :: pieces c (s.extract (i + 1) s.size) := by
 obtain ⟨h1, h2⟩ := Lib.indexByte_some h
 obtain ⟨hi, h3⟩ := List.getElem?_eq_some_iff.1 h1
 have hs : i < s.size := by rw [Lib.size_eq]; exact hi
 refine ⟨hs, ?_⟩
 have e0 : (s.extract 0 i).data.toList = s.data.toList.take i := by rw [Lib.extract_data, List.drop_zero, Nat.sub_zero]
 have e1 : (s.extract (i + 1) s.size).data.toList = s.data.toList.drop (i + 1) := by
  rw [Lib.extract_data, List.take_of_length_le (by rw [List.length_drop, ← Lib.size_eq]; omega)]
 have hn : c ∉ s.data.toList.take i := fun hm => by
  obtain ⟨k, hk, e⟩ := List.getElem_of_mem hm
  rw [List.length_take] at hk
  rw [List.getElem_take] at e
  exact h2 k (by omega) (by rw [List.getElem?_eq_getElem (by omega), e])
 have e2 : s.data.toList = s.data.toList.take i ++ c :: s.data.toList.drop (i + 1) := by
  conv => lhs; rw [← List.take_append_drop i s.data.toList]
  rw [List.drop_eq_getElem_cons hi, h3]
 unfold pieces
 rw [e1]
 conv => lhs; rw [e2]
 rw [cutBy_lead hn, List.map_cons, ← e0]
theorem pieces_len : (pieces c s).length ≤ s.size + 1 := by
 unfold pieces
 rw [List.length_map, Lib.size_eq]
 exact cutBy_le _
end
theorem seq_at {n P : Nat} {c : UInt8} {s : ByteArray} {w : World} (hB : Box3 w P c s) (hs : s.size ≤ 140737488355328) :
 SeqAt Fence.wide n Tryz.prog 191 #[.pointer (some ⟨P + 1, 0, none⟩), .pointer (some ⟨P, 0, none⟩), .pointer (some ⟨P + 2, 0, none⟩)] P (Keep3 P) (pieces c s) w := by
 intro l J Jx W hW hJB hY h0
 have CI : Hid (∀ (x : ByteArray) (V : World), CallsIn Fence.wide (n - 1) Tryz.prog 136 #[.string x, .string ⟨#[c]⟩] V fun e w' => e = .returned (.int .i64 (Lib.indexByte x.data.toList c)) ∧ w' = V) := fun x V => callsIn_wide.2 (Tryz.strings_Index_one x c V)
 obtain ⟨N, hN⟩ : ∃ N, N = (pieces c s).length := ⟨_, rfl⟩
 have hB1 := hB.keep hW
 have HY := ehide hY
 have HJ := ehide hJB
 have hc1 := hB1.text.cell
 have hc2 := hB1.sep.cell
 refine callsIn_of_wp Tryz.func191 rfl trivial ?_ rfl
 simp only [Tryz.ntmps191, List.size_toArray, List.length_cons, List.length_nil, Nat.reduceAdd, Nat.reduceSub, Array.replicate_succ, Array.replicate_zero, List.push_toArray, List.append_toArray, List.nil_append, List.cons_append]
 gi_wp2
 gi_loopw [7, 8] (fun _ _ wr => ∃ (k : Nat) (r : ByteArray), J k wr ∧ Box3 wr P c r ∧ Hid ((pieces c s).drop k = pieces c r) ∧ r.size ≤ s.size) (fun _ _ wr => left3 P wr)
 case atStart => exact ⟨0, s, h0, hB1, rfl, Nat.le_refl _⟩
 case round =>
  obtain ⟨k, r, hj, hb, hp, hr⟩ := hrel
  have hr1 := hb.text.cell
  have hr2 := hb.sep.cell
  have hr3 := hb.save.cell
  by_cases hi : Lib.indexByte r.data.toList c = -1
  ·have CJ : Hid (∀ (V : World), CallsIn Fence.wide (n - 1) Tryz.prog 136 #[.string r, .string ⟨#[c]⟩] V fun e w' => e = .returned (.int .i64 (-1)) ∧ w' = V) := fun V => by
    have h1 := CI.out r V
    rwa [hi] at h1
   have HL : Hid (N = k + 1) := by
    have h1 := congrArg List.length hp.out
    rw [pieces_last hi, List.length_drop, List.length_singleton] at h1
    rw [hN]; unfold Hid; omega
   have hx : (pieces c s)[k]? = some r := by
    have h1 := congrArg (fun l => l[0]?) hp.out
    rw [pieces_last hi] at h1
    simpa using h1
   obtain ⟨fn, tmps, assign, body, hy, hR⟩ := HY.out k r wr hj hx
   clear hi hx hp
   gi_wp2_with (refine ⟨trivial, fun h => (by cases h), ?_⟩; gi_at_call 136; refine (CJ.out _).mono ?_; rintro e w' ⟨rfl, rfl⟩)
   refine ⟨fun h => (by cases h), hR.mono ?_⟩
   rintro e W3 (⟨rfl, hJ3, hk3⟩ | ⟨rfl, hJx3⟩)
   ·gi_wp2
    go_end0
    exact ⟨⟨_, rfl⟩, .inl (by rw [← hN, HL.out]; exact hJ3)⟩
   ·gi_wp2
    go_end0
    exact ⟨⟨_, rfl⟩, .inr ⟨k + 1, by rw [← hN, HL.out]; exact Nat.le_refl _, hJx3⟩⟩
  ·obtain ⟨i, hi2⟩ : ∃ i : Nat, Lib.indexByte r.data.toList c = (i : Int) := ⟨(Lib.indexByte r.data.toList c).toNat, by have := Lib.indexByte_ge r.data.toList c; omega⟩
   obtain ⟨hlt, hpc⟩ := pieces_more hi2
   have CJ : Hid (∀ (V : World), CallsIn Fence.wide (n - 1) Tryz.prog 136 #[.string r, .string ⟨#[c]⟩] V fun e w' => e = .returned (.int .i64 (i : Int)) ∧ w' = V) := fun V => by
    have h1 := CI.out r V
    rwa [hi2] at h1
   have hx : (pieces c s)[k]? = some (r.extract 0 i) := by
    have h1 := congrArg (fun l => l[0]?) hp.out
    rw [hpc] at h1
    simpa using h1
   have HP2 : Hid ((pieces c s).drop (k + 1) = pieces c (r.extract (i + 1) r.size)) := by
    have h1 := congrArg (fun l => l.drop 1) hp.out
    rw [hpc] at h1
    unfold Hid
    simpa [List.drop_drop, Nat.add_comm] using h1
   have HKL : Hid (k + 1 ≤ N) := by
    have := (List.getElem?_eq_some_iff.1 hx).1
    rw [hN]; unfold Hid; omega
   obtain ⟨fn, tmps, assign, body, hy, hR⟩ := HY.out k _ wr hj hx
   have hsz : (r.extract (i + 1) r.size).size ≤ s.size := by rw [Lib.size_eq, Lib.extract_data, List.length_take]; omega
   have hle : left3 P wr = r.size := hb.left
   have d0 : decide ((i : Int) < 0) = false := decide_eq_false (by omega)
   clear hi hi2 hx hp hpc
   gi_wp2_with (refine ⟨trivial, fun h => (by cases h), ?_⟩; gi_at_call 136; refine (CJ.out _).mono ?_; rintro e w' ⟨rfl, rfl⟩)
   refine ⟨fun h => (by cases h), hR.mono ?_⟩
   rintro e W3 (⟨rfl, hJ3, hk3⟩ | ⟨rfl, hJx3⟩)
   ·have hb3 := hb.keep hk3
    have ht1 := hb3.text.cell
    have ht2 := hb3.sep.cell
    have hf1 := hb3.text.frozen
    have w1 : IntKind.i64.wrap ((i : Int) + 1) = (i : Int) + 1 := IntWalk.i64_in _ (by omega)
    gi_wp2
    go_roundw
    case rel =>
     refine ⟨k + 1, _, HJ.out _ _ _ hJ3, hb3.set _, ?_, hsz⟩
     exact HP2
    case measure =>
     rw [hle, (hb3.set _).left, Lib.size_eq, Lib.extract_data, List.length_take, List.length_drop, ← Lib.size_eq]
     omega
   ·gi_wp2
    refine bodyPost_ret (results_none rfl _ _ _) rfl ?_
    exact ⟨⟨_, rfl⟩, .inr ⟨k + 1, by rw [← hN]; exact HKL.out, hJx3⟩⟩
end Go.Proofs.YtfflmmbhpchloaaGreatDoor.E
end
