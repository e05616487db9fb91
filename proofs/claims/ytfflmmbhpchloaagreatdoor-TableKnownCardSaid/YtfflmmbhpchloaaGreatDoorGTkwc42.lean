/- Each theorem here says its own conditions. -/
import Derived.Test.YtfflmmbhpchloaaGreatDoorGTkwc41
set_option maxRecDepth 100000
set_option maxHeartbeats 16000000
section
open Go.RowKit
open Go.Proofs.YtfflmmbhpchloaaGreatDoor.V
namespace Go.Proofs.YtfflmmbhpchloaaGreatDoor
theorem vclone_any {W : World} {A : Option Addr} {n c : Nat} {xs : List ByteArray} (h : Ss W A xs) (hn : n = xs.length) (h0 : 0 < n) (hN : n ≤ 1000000) :
 Calls Tryz.prog 44 #[.slice A n c] W (RetSs W n xs) := by
 obtain ⟨k, rfl⟩ : ∃ k, n = k + 1 := ⟨n - 1, by omega⟩
 exact vclone_ss h hn hN
section
variable {base p : Nat} {W : World} {x : TPl} {T : Tb}
theorem tknownX_h (h : TabM base W p x T) (h1 : 0 < T.ents.length) (h2 : 0 < T.vals.length) (h3 : T.ents.length ≤ 1000000) (h4 : T.vals.length ≤ 1000000) :
 Calls Tryz.prog 19 #[.pointer (some ⟨p, 0, none⟩)] W (KnR W T) := by
 obtain ⟨A, c, B, d, e1, e2, s1, s2⟩ := h.reads
 obtain ⟨n, hn⟩ : ∃ n, n = T.ents.length := ⟨_, rfl⟩
 obtain ⟨m, hm⟩ : ∃ m, m = T.vals.length := ⟨_, rfl⟩
 have C1 : Hid (∀ W', Bel W W' → Calls Tryz.prog 44 #[.slice A n c] W' (RetSs W' n T.names)) := fun W' hb => vclone_any (s1.up hb.hid) (by rw [hn, Tb.names, List.length_map]) (by omega) (by omega)
 have C2 : Hid (∀ W', Bel W W' → Calls Tryz.prog 44 #[.slice B m d] W' (RetSs W' m T.prefs)) := fun W' hb => vclone_any (s2.up hb.hid) (by rw [hm, Tb.prefs, List.length_map]) (by omega) (by omega)
 unfold KnR
 rw [← hn, ← hm]
 obtain ⟨W1, hW1⟩ : ∃ X, X = W.alloc (.cells #[.slice none 0 0, .slice none 0 0] 62) := ⟨_, rfl⟩
 have HX : At W1 W.heap.size [.slice none 0 0, .slice none 0 0] := by rw [hW1]; exact at_new0 _ _ _
 have HB : Bel W W1 := by rw [hW1]; exact (Bel.refl W).al _
 have HM := h.up HB.hid
 have c0 := HM.c0; have c1 := HM.c1; have pl := HM.lt
 rw [e1, ← hn] at c0
 rw [e2, ← hm] at c1
 have HW := khide hW1
 obtain ⟨qx, hqx⟩ : ∃ z, z = W.heap.size := ⟨_, rfl⟩
 rw [← hqx] at HX
 have HQX : Hid (W.heap.size ≤ qx) := by unfold Hid; omega
 have hpq : p ≠ qx := by have := h.lt; omega
 clear h h1 h2 h3 h4 e1 e2 s1 s2 hn hm hW1 HM
 go_enter Tryz.func19, Tryz.ntmps19
 go_upto_region 1 with fail
 rw [← HW.out, show Value.pointer (some ⟨W.heap.size, 0, none⟩) = Value.pointer (some ⟨qx, 0, none⟩) by rw [hqx]]
 clear hqx HW
 have HS : Hid (∀ w' : World, Bel W1 w' → w'.cell? ⟨p, 0, none⟩ = some (.slice A n c) ∧ w'.cell? ⟨p, 1, none⟩ = some (.slice B m d)) := fun w' hw => ⟨(hw.cell pl).trans c0, (hw.cell pl).trans c1⟩
 have HBX : Bel W1 W1 := Bel.refl _
 have hl1 := HX.lt
 refine wp_region_held_drew (S := fun w' => w'.cell? ⟨p, 0, none⟩ = some (.slice A n c) ∧ w'.cell? ⟨p, 1, none⟩ = some (.slice B m d)) (by kernel_rfl) ?_ (fun hHeld => ?_)
 ·exact HS.out _ (Bel.refl _).dr
 refine tq 0 ?_
 refine tq 1 ?_
 refine tq 2 ?_
 refine tq 3 ?_
 refine tq 5 ?_
 refine tq 6 ?_
 refine tq 7 ?_
 refine tq 8 ?_
 (refine sk 4 (fun K hK => ?_); go_simp; (go_at_call 44; refine (C1.out _ HB.dr).mono ?_; rintro e w2 ⟨A5, c5, rfl, hs1, hbk⟩; replace HBX : Bel W1 w2 := (Bel.refl W1).dr.up hbk); (try (go_wp2_with fail)); refine hK.out _ _ ?_ (fun hHeld => ?_); (focus ((try dsimp only); exact HS.out _ HBX)); clear hK K; (try simp only [lay7, Act.put]))
 (refine sk 9 (fun K hK => ?_); go_simp; (go_at_call 44; refine (C2.out _ (HB.up HBX.hid)).mono ?_; rintro e w3 ⟨B5, d5, rfl, hs2, hbk2⟩; replace hs1 := hs1.up hbk2; replace HBX : Bel W1 w3 := HBX.up hbk2); (try (go_wp2_with fail)); refine hK.out _ _ ?_ (fun hHeld => ?_); (focus ((try dsimp only); exact HS.out _ HBX)); clear hK K; (try simp only [lay7, Act.put]))
 refine tq 10 ?_
 replace HX := HX.up HBX.hid
 replace HB := HB.up HBX.hid
 have KS : Hid (∀ u v : Value, ((w3.setCell ⟨qx, 0, none⟩ u).setCell ⟨qx, 1, none⟩ v).cell? ⟨p, 0, none⟩ = some (.slice A n c) ∧ ((w3.setCell ⟨qx, 0, none⟩ u).setCell ⟨qx, 1, none⟩ v).cell? ⟨p, 1, none⟩ = some (.slice B m d)) := fun u v => by
  have h5 := HS.out _ HBX
  exact ⟨((World.cell?_setCell_far _ _ _ _ (Ne.symm hpq)).trans (World.cell?_setCell_far _ _ _ _ (Ne.symm hpq))).trans h5.1, ((World.cell?_setCell_far _ _ _ _ (Ne.symm hpq)).trans (World.cell?_setCell_far _ _ _ _ (Ne.symm hpq))).trans h5.2⟩
 have x0 := HX.c0; have x1 := HX.c1; have xf0 := HX.f0; have xf1 := HX.f1; have xl := HX.lt
 (refine sk 11 (fun K hK => ?_); go_simp; refine hK.out _ _ ?_ (fun hHeld => ?_); (focus ((try dsimp only); exact KS.out _ _)); clear hK K; (try simp only [lay7, Act.put]))
 refine wpAnyH_done (by decide +kernel) ?_ _
 go_wp2_with fail
 refine bodyPost_ret (v := .agg #[.slice A5 n c5, .slice B5 m d5]) (by simp [results, Tryz.results19, go_sem, x0, x1, xl]) rfl ?_
 exact ⟨A5, c5, B5, d5, rfl, Ss.sets hs1 HX, Ss.sets hs2 HX, (HB.put HQX.out _).put HQX.out _⟩
end
end Go.Proofs.YtfflmmbhpchloaaGreatDoor
end
section
open Go.RowKit
namespace Go.Proofs.YtfflmmbhpchloaaGreatDoor
def StrsT (W : World) (xs : List ByteArray) (e : Ending) (w' : World) : Prop := e = .returned (.slice (some ⟨W.heap.size, 0, none⟩) xs.length xs.length) ∧ w'.heap[W.heap.size]? = some (.cells (xs.map Value.string).toArray 9 (0, 0)) ∧ Hid (Below W.heap.size W w')
def SplitT (W : World) (xs : List ByteArray) (e : Ending) (w' : World) : Prop := e = .returned (.tuple #[.slice (some ⟨W.heap.size, 0, none⟩) xs.length xs.length, .int .i64 0]) ∧ w'.heap[W.heap.size]? = some (.cells (xs.map Value.string).toArray 9 (0, 0)) ∧ Hid (Below W.heap.size W w')
theorem tssplit_any (s : ByteArray) (w : World) (hs : s.size ≤ 1000000) : Calls Tryz.prog 53 #[.string s, .string ⟨#[45]⟩] w (StrsT w (pcs s)) := by
 have CG := yhide (fun W => gensplit_any s W hs)
 clear hs
 have HR : Hid (∀ o : List ByteArray, o = pcs s → StrsT w o (.returned (.slice (some ⟨w.heap.size, 0, none⟩) o.length o.length)) (w.alloc (.cells (o.map Value.string).toArray 9))) :=
  fun o _ => ⟨rfl, heap_alloc_new w _, (Below.refl _ _).alloc (Nat.le_refl _) _⟩
 obtain ⟨xs, hx⟩ : ∃ xs, xs = pcs s := ⟨_, rfl⟩
 have CH : Hid (∀ W, Calls Tryz.prog 92 #[.string s, .string ⟨#[45]⟩, .int .i64 0, .int .i64 (-1)] W fun e w' => e = .returned (.slice (some ⟨W.heap.size, 0, none⟩) xs.length xs.length) ∧ w' = W.alloc (.cells (xs.map Value.string).toArray 9)) := fun W => by
  rw [hx]; exact CG.out W
 have HX := yhide (HR.out xs hx)
 rw [← hx]
 clear CG HR hx
 go_enter Tryz.func53, Tryz.ntmps53
 go_wp2_with (first | (go_at_call 92; (with_reducible refine (CH.out _).mono ?_); rintro e w1 ⟨rfl, hw1⟩; rw [hw1]) | fail)
 go_ret
 exact HX.out
theorem twsplit_any {s : ByteArray} (hs : s.size ≤ 256) (w : World) : Calls Tryz.prog 28 #[.string s] w (if goodAll (pcs s) then SplitT w (pcs s) else SplitNo w 2) := by
 have d : decide ((256 : Int) < (s.size : Int)) = false := decide_eq_false (by omega)
 have CS := yhide (fun W => tssplit_any s W (by omega))
 have HL := yhide (pcs_le s)
 have HSZ := yhide hs
 obtain ⟨xs, hx⟩ : ∃ xs, xs = pcs s := ⟨_, rfl⟩
 rw [← hx] at CS HL ⊢
 obtain ⟨n, hn⟩ : ∃ n, n = xs.length := ⟨_, rfl⟩
 have hn2 : n ≤ 1000000 := by have := HL.out; omega
 have HN := yhide hn
 clear hx hn hs
 have HS : Hid (∀ W, goodAll xs = true → W.heap[w.heap.size]? = some (.cells (xs.map Value.string).toArray 9 (0, 0)) → Hid (Below w.heap.size w W) → (if goodAll xs then SplitT w xs else SplitNo w 2) (.returned (.tuple #[.slice (some ⟨w.heap.size, 0, none⟩) n n, .int .i64 0])) W) := fun W h2 h3 h4 => by
  rw [if_pos h2, HN.out]; exact ⟨rfl, h3, h4⟩
 have HB : Hid (∀ W, goodAll xs = false → Hid (Below w.heap.size w W) → (if goodAll xs then SplitT w xs else SplitNo w 2) (.returned (.tuple #[.slice none 0 0, .int .i64 2])) W) := fun W h2 h4 => by
  rw [if_neg (by rw [h2]; simp)]; exact ⟨rfl, h4⟩
 obtain ⟨Q, hQ⟩ : ∃ Q, Q = (if goodAll xs then SplitT w xs else SplitNo w 2) := ⟨_, rfl⟩
 rw [← hQ] at HS HB ⊢
 clear hQ
 go_enter Tryz.func28, Tryz.ntmps28
 go_wp2_with (first | (go_at_call 53; (with_reducible refine (CS.out _).mono ?_); rintro e w1 ⟨rfl, hrow, hbk⟩; rw [← HN.out]; have HRW := yhide hrow; clear hrow) | fail)
 go_loop [14] (fun iv => ∃ k : Nat, k ≤ n ∧ iv = .int .i64 (k : Int) ∧ Hid (goodAll (xs.take k) = true)) (fun iv => n - (intOf iv).toNat)
 case atStart => exact ⟨0, Nat.zero_le _, rfl, rfl⟩
 case round =>
  obtain ⟨k, hk, rfl, hall⟩ := hrel
  by_cases hlt : k < n
  ·have hx : k < xs.length := by rw [← HN.out]; exact hlt
   obtain ⟨x, hxe⟩ : ∃ x, x = xs[k] := ⟨_, rfl⟩
   have hcell : w1.cell? ⟨w.heap.size, k, none⟩ = some (.string x) := by
    rw [cell_of_row _ _ k _ _ (0, 0) HRW.out, hxe]
    simp [hx]
   have hb : w.heap.size < w1.heap.size := (Array.getElem?_eq_some_iff.1 HRW.out).1
   obtain ⟨b, hbe⟩ : ∃ b, b = goodW x.data.toList := ⟨_, rfl⟩
   have HG1 : Hid (goodAll (xs.take (k + 1)) = (goodAll (xs.take k) && b)) := by rw [hbe, hxe]; exact goodAll_take hx
   have HG2 : Hid (b = false → goodAll xs = false) := fun h => goodAll_false hx (by rw [← hxe, ← hbe, h])
   have CG : Hid (∀ W, Calls Tryz.prog 56 #[.string x] W fun e w' => e = .returned (.bool b) ∧ W = w') := fun W => by rw [hbe]; exact wgood_any x W
   clear hxe hbe hx
   cases b
   ·go_wp2_with (first | (go_at_call 56; (with_reducible refine (CG.out _).mono ?_); rintro e w2 ⟨rfl, rfl⟩) | fail)
    exact HB.out _ (HG2.out (by first | rfl | trivial)) hbk
   ·go_wp2_with (first | (go_at_call 56; (with_reducible refine (CG.out _).mono ?_); rintro e w2 ⟨rfl, rfl⟩) | fail)
    go_round
    case rel => exact ⟨k + 1, by omega, by go_num, by unfold Hid; rw [HG1.out, hall.out]; rfl⟩
    case measure => simp [intOf]; omega
  ·obtain rfl : k = n := by omega
   have HG : Hid (goodAll xs = true) := by
    have := hall.out
    rwa [List.take_of_length_le (by rw [← HN.out]; exact Nat.le_refl _)] at this
   go_wp2
   exact HS.out _ HG.out HRW.out hbk
def AppR (W0 : World) (zs : List ByteArray) (e : Ending) (w' : World) : Prop := ∃ R c z, Hid (z = zs.length) ∧ e = .returned (.slice R z c) ∧ Hid (w'.ownsRow W0.heap.size 9 1 (.slice R z c) z (zs.map Value.string)) ∧ Hid (Below W0.heap.size W0 w')
theorem appendShown_any {W0 : World} {A R : Option Addr} {n c z cp : Nat} {l : List AL} {xs : List ByteArray} {w : World} (hB : Hid (Below W0.heap.size W0 w)) (h : Cs W0 A (cellsA l)) (hn : n = l.length) (hl : n ≤ 1000) (hz : z = xs.length) (hzl : z ≤ 1000000) (ho : Hid (w.ownsRow W0.heap.size 9 1 (.slice R z cp) z (xs.map Value.string))) (hs : ∀ a ∈ l, a.1.size ≤ 2000000 ∧ a.2.1.size ≤ 2000000) :
 Calls Tryz.prog 64 #[.slice R z cp, .slice A n c] w (AppR W0 (xs ++ showsA l)) := by
 have HN := khide hn
 have HS := khide hs
 have HZ := khide hz
 obtain ⟨i0, hi, hz0, hz1, hz2⟩ := info_parts hinfoStr
 have J0 := khide hi; have Y0 := khide hz0; have Y1 := khide hz1; have Y2 := khide hz2
 clear hi hz0 hz1 hz2 hn hs hz
 go_enter Tryz.func64, Tryz.ntmps64
 go_wp2
 go_loopw [0, 9] (fun rv iv wr => ∃ (k cp q : Nat) (R : Option Addr), k ≤ n ∧ iv = .int .i64 (k : Int) ∧ rv = .slice R q cp ∧ q = z + k ∧ Hid (wr.ownsRow W0.heap.size 9 1 (.slice R q cp) q ((xs ++ showsA (l.take k)).map Value.string)) ∧ Hid (Below W0.heap.size W0 wr)) (fun _ iv _ => n - (intOf iv).toNat)
 case atStart => exact ⟨0, cp, z, R, Nat.zero_le _, rfl, rfl, rfl, (by rw [show xs ++ showsA (l.take 0) = xs by simp [showsA]]; exact ho), hB⟩
 case round =>
  clear ho hB
  obtain ⟨k, cp, q, R, hk, rfl, rfl, hq, HO, HB⟩ := hrel
  by_cases hlt : k < n
  ·obtain ⟨a, ha⟩ : ∃ a, l[k]? = some a := ⟨l[k]'(by rw [← HN.out]; exact hlt), List.getElem?_eq_getElem _⟩
   obtain ⟨ad, rfl, had, a0, a1, a2⟩ := cs_at3 (h.up HB) ha
   obtain ⟨p, nm, pk⟩ := a
   have HSZ : Hid (p.size ≤ 2000000 ∧ nm.size ≤ 2000000) := HS.out _ (List.mem_of_getElem? ha)
   obtain ⟨s, hse⟩ : ∃ s, showB p nm pk = s := ⟨_, rfl⟩
   have C0 : Hid (∀ W : World, Calls Tryz.prog 99 #[.agg #[.string p, .string nm, .int .i64 pk]] W (StrR W s)) := fun W => hse ▸ show_any (by have := HSZ.out; omega) W
   have HX : Hid ((xs ++ showsA (l.take (k + 1))).map Value.string = (xs ++ showsA (l.take k)).map Value.string ++ [.string s]) := by
    obtain ⟨hx, hx2⟩ := List.getElem?_eq_some_iff.1 ha
    unfold Hid
    rw [List.take_succ_eq_append_getElem hx, hx2]
    unfold showsA
    have e1 : (l.take k ++ [(p, nm, pk)]).map showA = (l.take k).map showA ++ [s] := by rw [List.map_append, ← hse]; rfl
    rw [e1, ← List.append_assoc, List.map_append]
    rfl
   have HBS : Hid (W0.heap.size ≤ wr.heap.size) := HB.out.size
   have k0 : (0 : Int) ≤ (k : Int) := by omega
   have k1 : (k : Int) < (n : Int) := by omega
   have hql : q ≤ 1001000 := by omega
   have HQ := khide hq
   clear ha hse hq
   go_wp2_with (first | (go_at_call 99; (with_reducible refine (C0.out _).mono ?_); rintro e w2 ⟨rfl, hb2⟩) | (at_builtin; go_must (refine wpList_append_own _ rfl (.tmp 13) (.tmp 16) 60 rfl W0.heap.size 9 i0 (.string ByteArray.empty) 1 16 Tryz.underlying60 J0.out Y0.out Y1.out Y2.out rfl (by decide) _ _ _ rfl ((own_up (HO.out.alloc _) hb2).alloc _) ⟨w2.heap.size, 0, none⟩ 1 1 [.string s] rfl rfl (at_news (at_new0 _ _ _)) (one_str _) (by simp only [maxLen]; omega) (by omega) (Nat.le_trans HBS.out (Nat.le_trans (Nat.le_trans (by simp) hb2.out.size) (by simp))) ?_); intro v1 w3 ho1 hg1 hn1; clear hn1) | fail)
   have hg2 : (w2.alloc (.cells #[.string s] 9)).grownBy w3 (Value.slice R q cp).ownBlock := hg1
   have HO2 := own_up (HO.out.alloc (.cells #[.string p, .string nm, .int .i64 pk] 96)) hb2
   have HB2 : Hid (Below W0.heap.size W0 w2) := (HB.out.alloc HBS.out _).trans (hb2.out.mono (Nat.le_trans HBS.out (by simp)))
   have HB3 : Hid (Below W0.heap.size W0 w3) := (HB2.out.alloc HB2.out.size _).grown hg2 (HB2.out.alloc HB2.out.size _).size (fun g' e => (HO2.lt g' e).1)
   obtain ⟨R2, cp2, rfl, _⟩ := own_slice ho1
   have HO3 := khide ho1
   clear hg1 hg2 ho1 HO2
   go_roundw
   case rel =>
    refine ⟨k + 1, cp2, q + 1, R2, by omega, by go_num, rfl, (by have := HQ.out; omega), ?_, HB3⟩
    rw [HX.out]
    exact HO3
   case measure => simp [intOf]; omega
  ·obtain rfl : k = n := by omega
   go_wp2
   go_ret
   have h3 := HO.out
   rw [List.take_of_length_le (by rw [← HN.out]; exact Nat.le_refl _)] at h3
   have e : (xs ++ showsA l).length = q := by unfold showsA; rw [List.length_append, List.length_map, ← HN.out, ← HZ.out, hq]
   exact ⟨R, cp, q, e.symm, rfl, h3, HB⟩
end Go.Proofs.YtfflmmbhpchloaaGreatDoor
end
