/- Each theorem here says its own conditions. -/
import Derived.Test.YtfflmmbhpchloaaGreatDoorGTac40
set_option maxRecDepth 100000
set_option maxHeartbeats 16000000
section
open Go.RowKit
open Go.Proofs.YtfflmmbhpchloaaGreatDoor.V
namespace Go.Proofs.YtfflmmbhpchloaaGreatDoor
def BoxT (W : World) (q : Nat) (vs : List Value) (t : TypeId) : Prop := W.heap[q]? = some (.cells vs.toArray t (0, 0))
theorem BoxT.lt {W : World} {q : Nat} {vs : List Value} {t : TypeId} (h : BoxT W q vs t) : q < W.heap.size := (Array.getElem?_eq_some_iff.1 h).1
theorem BoxT.up {W W' : World} {q : Nat} {vs : List Value} {t : TypeId} (h : BoxT W q vs t) (hb : Hid (Below W.heap.size W W')) : BoxT W' q vs t := (hb.out.block q h.lt).trans h
theorem BoxT.far {W : World} {q q' i : Nat} {vs : List Value} {t : TypeId} (h : BoxT W q vs t) (hn : q' ≠ q) (u : Value) : BoxT (W.setCell ⟨q', i, none⟩ u) q vs t := ((Turn.set W ⟨q', i, none⟩ u).block q h.lt (by simpa using Ne.symm hn)).trans h
theorem boxT_new (W : World) (vs : List Value) (t : TypeId) : BoxT (W.alloc (.cells vs.toArray t)) W.heap.size vs t := heap_alloc_new W _
theorem ku_row {W : World} {q : Nat} {vs : List Value} {t : TypeId} {cs : Array Value} (h : BoxT W q vs t) (hv : ∀ v ∈ vs, ∀ x, v ≠ U32 x) : KU W (W.setRow q cs) := by
 refine ⟨by simp [World.setRow], fun a x hc => ?_⟩
 by_cases ha : a.block = q
 ·exfalso
  obtain ⟨b, o, rfl⟩ := plainT hc
  have hb : b = q := ha
  subst hb
  rw [cell_of_row _ _ o _ _ (0, 0) h] at hc
  have h1 : vs[o]? = some (U32 x) := by simpa using hc
  exact hv _ (List.mem_of_getElem? h1) x rfl
 ·have e : (W.setRow q cs).heap[a.block]? = W.heap[a.block]? := setRow_other W q a.block cs ha
  obtain ⟨b, o, rfl⟩ := plainT hc
  exact (cell_same e o).trans hc
section
variable {base p : Nat} {W : World} {x : TPl} {T : Tb} {s : ByteArray}
def EnR (W : World) (s : ByteArray) (o : Option Ent) (e : Ending) (w' : World) : Prop := match o with
 | none => e = .returned (.tuple #[.agg #[.string ⟨#[]⟩, .string ⟨#[]⟩, .int .i64 0, .bool false, .slice none 0 0, .slice none 0 0, .bool false, .slice none 0 0, .slice none 0 0, .bool false], .bool false]) ∧ Bel W w'
 | some m => ∃ b A n c A' n' c' b2 B k d B' k' d', e = .returned (.tuple #[.agg #[.string s, .string m.id, .int .i64 m.base, .bool b, .slice A n c, .slice A' n' c', .bool b2, .slice B k d, .slice B' k' d', .bool m.has], .bool true]) ∧ QA w' b A n c A' n' c' m.fac 101 ∧ QA w' b2 B k d B' k' d' m.off 101 ∧ Bel W w'
theorem tentry_h (h : TabM base W p x T) (hs : s.size ≤ 9223372036854775807) : Calls Tryz.prog 16 #[.pointer (some ⟨p, 0, none⟩), .string s] W (EnR W s (lookL T.ents s)) := by
 obtain ⟨nm, id, ba, s1, A1, n1, c1, A2, n2, c2, s2, B1, m1, d1, B2, m2, d2, ho, v, k1, _, k2, _⟩ := h.look hs
 have HM := khide h
 obtain ⟨W1, hW1⟩ : ∃ X, X = W.alloc (.cells #[.string ⟨#[]⟩, .string ⟨#[]⟩, .int .i64 0, .bool false, .slice none 0 0, .slice none 0 0, .bool false, .slice none 0 0, .slice none 0 0, .bool false] 55) := ⟨_, rfl⟩
 have HX : BoxT W1 W.heap.size [.string ⟨#[]⟩, .string ⟨#[]⟩, .int .i64 0, .bool false, .slice none 0 0, .slice none 0 0, .bool false, .slice none 0 0, .slice none 0 0, .bool false] 55 := by rw [hW1]; exact boxT_new _ _ _
 have HB : Bel W W1 := by rw [hW1]; exact (Bel.refl W).al _
 have HW := khide hW1
 obtain ⟨qx, hqx⟩ : ∃ k, k = W.heap.size := ⟨_, rfl⟩
 rw [← hqx] at HX
 have HQX : Hid (W.heap.size ≤ qx) := by unfold Hid; omega
 cases hl : lookL T.ents s with
 | none =>
   rw [hl] at k1
   have K1 := khide k1
   clear hl k1 k2 h hs hW1
   go_enter Tryz.func16, Tryz.ntmps16
   go_upto_region 1 with fail
   rw [← HW.out, show Value.pointer (some ⟨W.heap.size, 0, none⟩) = Value.pointer (some ⟨qx, 0, none⟩) by rw [hqx]]
   clear hqx HW
   have HM1 := khide (HM.out.up HB.hid)
   have q2 := HM1.out.c2; have qp := HM1.out.lt
   have k1 := K1.out W1 (Turn.of HB.hid)
   go_upto_region 2 with (first | (refine wpList_store_new 98 [.string nm, .string id, .int .i64 ba, .bool s1, .slice A1 n1 c1, .slice A2 n2 c2, .bool s2, .slice B1 m1 d1, .slice B2 m2 d2, .bool ho, .int .i64 v.x0, .int .i64 v.x1, .int .i64 v.x2, .int .i64 v.x3, .int .i64 v.x4, .int .i64 v.x5, .int .i64 v.x6, .int .i64 v.x7] (.tmp 6) (.tmp 16) _ rfl rfl rfl rfl (by kernel_rfl) rfl rfl ?_) | fail)
   refine kwp_named ?_
   intro W3 hW3
   have hb3 : Bel W1 W3 := by rw [hW3]; exact (Bel.refl W1).al _
   have HA : At W3 W1.heap.size [.string nm, .string id, .int .i64 ba, .bool s1, .slice A1 n1 c1, .slice A2 n2 c2, .bool s2, .slice B1 m1 d1, .slice B2 m2 d2, .bool ho, .int .i64 v.x0, .int .i64 v.x1, .int .i64 v.x2, .int .i64 v.x3, .int .i64 v.x4, .int .i64 v.x5, .int .i64 v.x6, .int .i64 v.x7] := by rw [hW3]; exact at_new0 _ _ _
   obtain ⟨qm, hqm⟩ : ∃ k, k = W1.heap.size := ⟨_, rfl⟩
   rw [← hqm] at HA ⊢
   clear hW3 q2 qp k1 HM1 hqm
   replace HX := HX.up (Bel.hid hb3)
   replace HB := HB.up (Bel.hid hb3)
   clear hb3
   go_upto_region 3 with fail
   go_wp2_with (first | (refine wpList_store_row rfl 55 (.tmp 4) (.tmp 20) rfl qx #[.string ⟨#[]⟩, .string ⟨#[]⟩, .int .i64 0, .bool false, .slice none 0 0, .slice none 0 0, .bool false, .slice none 0 0, .slice none 0 0, .bool false] rfl rfl 55 _ HX (by kernel_rfl) rfl (by first | kernel_rfl | simp [Value.oneCell']) ?_) | fail)
   refine vname_end ?_
   intro W4 hW4
   have HX4 : At W4 qx [.string ⟨#[]⟩, .string ⟨#[]⟩, .int .i64 0, .bool false, .slice none 0 0, .slice none 0 0, .bool false, .slice none 0 0, .slice none 0 0, .bool false] := by rw [hW4]; exact at_row HX
   have HB4 : Bel W W4 := by rw [hW4]; exact bel_row HB HQX.out
   clear hW4
   have x0 := HX4.c0; have x1 := HX4.c1; have x2 := HX4.c2; have x3 := at_nth HX4 3 rfl; have x4 := at_nth HX4 4 rfl; have x5 := at_nth HX4 5 rfl; have x6 := at_nth HX4 6 rfl; have x7 := at_nth HX4 7 rfl; have x8 := at_nth HX4 8 rfl; have x9 := at_nth HX4 9 rfl; have xl := HX4.lt
   refine bodyPost_ret (v := .tuple #[.agg #[.string ⟨#[]⟩, .string ⟨#[]⟩, .int .i64 0, .bool false, .slice none 0 0, .slice none 0 0, .bool false, .slice none 0 0, .slice none 0 0, .bool false], .bool false]) (by simp [results, Tryz.results16, go_sem, x0, x1, x2, x3, x4, x5, x6, x7, x8, x9, xl]) rfl ?_
   exact ⟨rfl, HB4⟩
 | some m =>
   obtain ⟨hnm, rfl, rfl, rfl, rfl, hq1, hq2⟩ := k2 m hl
   obtain rfl : s = nm := hnm.symm
   rw [hl] at k1
   have K1 := khide k1
   obtain ⟨id, ba, fac, off, ho, v, full⟩ := m
   dsimp only at hq1 hq2 K1 ⊢
   have CF : Hid (∀ W', Bel W W' → Calls Tryz.prog 36 #[.agg #[.bool s1, .slice A1 n1 c1, .slice A2 n2 c2]] W' (FrR W' s1 n1 n2 fac 101)) := fun W' hb => tfresh_h (hq1.up hb.hid)
   have CG : Hid (∀ W', Bel W W' → Calls Tryz.prog 36 #[.agg #[.bool s2, .slice B1 m1 d1, .slice B2 m2 d2]] W' (FrR W' s2 m1 m2 off 101)) := fun W' hb => tfresh_h (hq2.up hb.hid)
   clear hl k1 k2 h hs hW1 hq1 hq2
   go_enter Tryz.func16, Tryz.ntmps16
   go_upto_region 1 with fail
   rw [← HW.out, show Value.pointer (some ⟨W.heap.size, 0, none⟩) = Value.pointer (some ⟨qx, 0, none⟩) by rw [hqx]]
   clear hqx HW
   have HM1 := khide (HM.out.up HB.hid)
   have q2 := HM1.out.c2; have qp := HM1.out.lt
   have k1 := K1.out W1 (Turn.of HB.hid)
   go_upto_region 2 with (first | (refine wpList_store_new 98 [.string s, .string id, .int .i64 ba, .bool s1, .slice A1 n1 c1, .slice A2 n2 c2, .bool s2, .slice B1 m1 d1, .slice B2 m2 d2, .bool ho, .int .i64 v.x0, .int .i64 v.x1, .int .i64 v.x2, .int .i64 v.x3, .int .i64 v.x4, .int .i64 v.x5, .int .i64 v.x6, .int .i64 v.x7] (.tmp 6) (.tmp 16) _ rfl rfl rfl rfl (by kernel_rfl) rfl rfl ?_) | fail)
   refine kwp_named ?_
   intro W3 hW3
   have hb3 : Bel W1 W3 := by rw [hW3]; exact (Bel.refl W1).al _
   have HA : At W3 W1.heap.size [.string s, .string id, .int .i64 ba, .bool s1, .slice A1 n1 c1, .slice A2 n2 c2, .bool s2, .slice B1 m1 d1, .slice B2 m2 d2, .bool ho, .int .i64 v.x0, .int .i64 v.x1, .int .i64 v.x2, .int .i64 v.x3, .int .i64 v.x4, .int .i64 v.x5, .int .i64 v.x6, .int .i64 v.x7] := by rw [hW3]; exact at_new0 _ _ _
   obtain ⟨qm, hqm⟩ : ∃ k, k = W1.heap.size := ⟨_, rfl⟩
   rw [← hqm] at HA ⊢
   clear hW3 q2 qp k1 HM1 hqm
   replace HX := HX.up (Bel.hid hb3)
   replace HB := HB.up (Bel.hid hb3)
   clear hb3
   have a0 := HA.c0; have a1 := HA.c1; have a2 := HA.c2; have a3 := at_nth HA 3 rfl; have a4 := at_nth HA 4 rfl; have a5 := at_nth HA 5 rfl; have a6 := at_nth HA 6 rfl; have a7 := at_nth HA 7 rfl; have a8 := at_nth HA 8 rfl; have a9 := at_nth HA 9 rfl; have al := HA.lt
   go_upto_region 5 with (first | (refine wpList_store_new 55 [.string s, .string id, .int .i64 ba, .bool s1, .slice A1 n1 c1, .slice A2 n2 c2, .bool s2, .slice B1 m1 d1, .slice B2 m2 d2, .bool ho] (.tmp 8) (.tmp 22) _ rfl rfl rfl rfl (by kernel_rfl) rfl rfl ?_) | fail)
   refine kwp_named ?_
   intro W4 hW4
   have HXL : Hid (qx < W3.heap.size) := HX.lt
   have hb4 : Bel W3 W4 := by rw [hW4]; exact (Bel.refl W3).al _
   have HY : At W4 W3.heap.size [.string s, .string id, .int .i64 ba, .bool s1, .slice A1 n1 c1, .slice A2 n2 c2, .bool s2, .slice B1 m1 d1, .slice B2 m2 d2, .bool ho] := by rw [hW4]; exact at_new0 _ _ _
   replace HX := HX.up (Bel.hid hb4)
   replace HB := HB.up (Bel.hid hb4)
   have HQY : Hid (W.heap.size ≤ W3.heap.size) := Nat.le_trans HQX.out (Nat.le_of_lt HXL.out)
   obtain ⟨qy, hqy⟩ : ∃ k, k = W3.heap.size := ⟨_, rfl⟩
   rw [← hqy] at HY HXL HQY ⊢
   clear hW4 hqy hb4 a0 a1 a2 a3 a4 a5 a6 a7 a8 a9 al HA
   (try simp only [lay7, Act.put])
   go_cut [29] from 23 to 30 (fun _ w' => ∃ F1 f1 F2 f2 G1 g1 G2 g2, At w' qy [.string s, .string id, .int .i64 ba, .bool s1, .slice F1 n1 f1, .slice F2 n2 f2, .bool s2, .slice G1 m1 g1, .slice G2 m2 g2, .bool ho] ∧ QA w' s1 F1 n1 f1 F2 n2 f2 fac 101 ∧ QA w' s2 G1 m1 g1 G2 m2 g2 off 101 ∧ BoxT w' qx [.string ⟨#[]⟩, .string ⟨#[]⟩, .int .i64 0, .bool false, .slice none 0 0, .slice none 0 0, .bool false, .slice none 0 0, .slice none 0 0, .bool false] 55 ∧ Bel W w')
   case first =>
    have y3 := (HY.all 3 _ rfl).1; have yf3 := (HY.all 3 _ rfl).2; have y4 := (HY.all 4 _ rfl).1; have yf4 := (HY.all 4 _ rfl).2; have y5 := (HY.all 5 _ rfl).1; have yf5 := (HY.all 5 _ rfl).2; have y6 := (HY.all 6 _ rfl).1; have yf6 := (HY.all 6 _ rfl).2; have y7 := (HY.all 7 _ rfl).1; have yf7 := (HY.all 7 _ rfl).2; have y8 := (HY.all 8 _ rfl).1; have yf8 := (HY.all 8 _ rfl).2; have yl := HY.lt
    go_region_with (first | (go_at_call 36; (with_reducible refine (CF.out _ HB.dr).mono ?_); rintro e w5 ⟨F1, f1, F2, f2, rfl, hf, hbk⟩; clear y3 yf3 y4 yf4 y5 yf5 y6 yf6 y7 yf7 y8 yf8 yl; replace HY := HY.dr.up (Bel.hid hbk); replace HX := BoxT.up (W := W4.drew) HX (Bel.hid hbk); replace HB := HB.dr.up (Bel.hid hbk); have y3 := (HY.all 3 _ rfl).1; have yf3 := (HY.all 3 _ rfl).2; have y4 := (HY.all 4 _ rfl).1; have yf4 := (HY.all 4 _ rfl).2; have y5 := (HY.all 5 _ rfl).1; have yf5 := (HY.all 5 _ rfl).2; have y6 := (HY.all 6 _ rfl).1; have yf6 := (HY.all 6 _ rfl).2; have y7 := (HY.all 7 _ rfl).1; have yf7 := (HY.all 7 _ rfl).2; have y8 := (HY.all 8 _ rfl).1; have yf8 := (HY.all 8 _ rfl).2; have yl := HY.lt) | (go_at_call 36; (with_reducible refine (CG.out _ HB).mono ?_); rintro e w6 ⟨G1, g1, G2, g2, rfl, hg, hbk2⟩; clear y3 yf3 y4 yf4 y5 yf5 y6 yf6 y7 yf7 y8 yf8 yl; replace HY := HY.up (Bel.hid hbk2); replace HX := HX.up (Bel.hid hbk2); replace HB := HB.up (Bel.hid hbk2); replace hf := hf.up (Bel.hid hbk2); have y3 := (HY.all 3 _ rfl).1; have yf3 := (HY.all 3 _ rfl).2; have y4 := (HY.all 4 _ rfl).1; have yf4 := (HY.all 4 _ rfl).2; have y5 := (HY.all 5 _ rfl).1; have yf5 := (HY.all 5 _ rfl).2; have y6 := (HY.all 6 _ rfl).1; have yf6 := (HY.all 6 _ rfl).2; have y7 := (HY.all 7 _ rfl).1; have yf7 := (HY.all 7 _ rfl).2; have y8 := (HY.all 8 _ rfl).1; have yf8 := (HY.all 8 _ rfl).2; have yl := HY.lt) | fail)
    all_goals
     go_wp2_with fail
     go_meet
     case rel =>
      refine ⟨F1, f1, F2, f2, G1, g1, G2, g2, ?_, ?_, ?_, ?_, ?_⟩
      ·exact ent_put6 (ent_put3 HY _ _ _) _ _ _
      ·exact (hf.ku (ku_put3 HY _ _ _)).ku (ku_put6 (ent_put3 HY _ _ _) _ _ _)
      ·exact (hg.ku (ku_put3 HY _ _ _)).ku (ku_put6 (ent_put3 HY _ _ _) _ _ _)
      ·exact (((((HX.far (Nat.ne_of_gt HXL.out) _).far (Nat.ne_of_gt HXL.out) _).far (Nat.ne_of_gt HXL.out) _).far (Nat.ne_of_gt HXL.out) _).far (Nat.ne_of_gt HXL.out) _).far (Nat.ne_of_gt HXL.out) _
      ·exact (((((HB.put HQY.out _).put HQY.out _).put HQY.out _).put HQY.out _).put HQY.out _).put HQY.out _
   case rest =>
   obtain ⟨F1, f1, F2, f2, G1, g1, G2, g2, HY7, hf, hg, HX7, HB7⟩ := hcut
   have a0 := HY7.c0; have a1 := HY7.c1; have a2 := HY7.c2; have a3 := at_nth HY7 3 rfl; have a4 := at_nth HY7 4 rfl; have a5 := at_nth HY7 5 rfl; have a6 := at_nth HY7 6 rfl; have a7 := at_nth HY7 7 rfl; have a8 := at_nth HY7 8 rfl; have a9 := at_nth HY7 9 rfl; have al := HY7.lt
   clear HX HB HY
   go_wp2_with (first | (refine wpList_store_row rfl 55 (.tmp 4) (.tmp 31) rfl qx #[.string s, .string id, .int .i64 ba, .bool s1, .slice F1 n1 f1, .slice F2 n2 f2, .bool s2, .slice G1 m1 g1, .slice G2 m2 g2, .bool ho] rfl rfl 55 _ HX7 (by kernel_rfl) rfl (by first | kernel_rfl | simp [Value.oneCell']) ?_) | fail)
   refine vname_end ?_
   intro W8 hW8
   have HX4 : At W8 qx [.string s, .string id, .int .i64 ba, .bool s1, .slice F1 n1 f1, .slice F2 n2 f2, .bool s2, .slice G1 m1 g1, .slice G2 m2 g2, .bool ho] := by rw [hW8]; exact at_row HX7
   have HB8 : Bel W W8 := by rw [hW8]; exact bel_row HB7 HQX.out
   have K8 := ku_row (cs := #[.string s, .string id, .int .i64 ba, .bool s1, .slice F1 n1 f1, .slice F2 n2 f2, .bool s2, .slice G1 m1 g1, .slice G2 m2 g2, .bool ho]) HX7 (by intro v hv; simp at hv; rcases hv with rfl | rfl | rfl | rfl | rfl | rfl | rfl | rfl | rfl | rfl <;> intro x e <;> cases e)
   rw [← hW8] at K8
   clear hW8 a0 a1 a2 a3 a4 a5 a6 a7 a8 a9 al
   have x0 := HX4.c0; have x1 := HX4.c1; have x2 := HX4.c2; have x3 := at_nth HX4 3 rfl; have x4 := at_nth HX4 4 rfl; have x5 := at_nth HX4 5 rfl; have x6 := at_nth HX4 6 rfl; have x7 := at_nth HX4 7 rfl; have x8 := at_nth HX4 8 rfl; have x9 := at_nth HX4 9 rfl; have xl := HX4.lt
   refine bodyPost_ret (v := .tuple #[.agg #[.string s, .string id, .int .i64 ba, .bool s1, .slice F1 n1 f1, .slice F2 n2 f2, .bool s2, .slice G1 m1 g1, .slice G2 m2 g2, .bool ho], .bool true]) (by simp [results, Tryz.results16, go_sem, x0, x1, x2, x3, x4, x5, x6, x7, x8, x9, xl]) rfl ?_
   exact ⟨s1, F1, n1, f1, F2, n2, f2, s2, G1, m1, g1, G2, m2, g2, rfl, hf.ku K8, hg.ku K8, HB8⟩
end
def convR (rs : List E.TRow) : List (Int × List ByteArray) := rs.map fun r => ((r.1 : Int), r.2)
theorem rw_lw {w : World} {B : Nat} {A : Option Addr} {rs : List E.TRow} (h : E.RW w B A rs) : LW w B A (convR rs) := fun hn => by
 unfold convR at hn ⊢
 rw [List.length_map] at hn
 obtain ⟨g, vs, e, hb, hl, hc⟩ := h hn
 refine ⟨g, 0, e, hb, fun j r hj => ?_⟩
 rw [List.getElem?_map, Option.map_eq_some_iff] at hj
 obtain ⟨r0, hr0, rfl⟩ := hj
 have hjl : j < vs.length := by rw [hl]; exact (List.getElem?_eq_some_iff.1 hr0).1
 obtain ⟨h1, h2, A', c, h3, _, h5, h6⟩ := hc j r0 _ hr0 (List.getElem?_eq_getElem hjl)
 exact ⟨A', c, by rw [Nat.zero_add]; exact h1, by rw [Nat.zero_add, h2, h3], h5, h6⟩
def LoC (W : World) (T : Tb) (e : Ending) (w' : World) : Prop := ∃ base p x, W.heap.size ≤ base ∧ e = .returned (.tuple #[.pointer (some ⟨p, 0, none⟩), .int .i64 0, .int .i64 0]) ∧ TabM base w' p x T ∧ Bel W w'
theorem cload_h {W : World} {s : ByteArray} {rs : List E.TRow} {T : Tb} (hs : E.tableOf s = (rs, 0, 0)) (hT : Tb.nil.rows (convR rs) = .ok T) (hz : ∀ r ∈ convR rs, ∀ u ∈ r.2, u.size ≤ 2000000) (hn : rs.length ≤ 900000) (tb : Tabs W) :
 Calls Tryz.prog 9 #[.string s] W (LoC W T) := by
 obtain ⟨n, hnn⟩ : ∃ k, rs.length = k := ⟨_, rfl⟩
 have CP : Hid (∀ W', Calls Tryz.prog 27 #[.string s] W' (fun e w' => ∃ A c, e = .returned (.tuple #[.slice A n c, .int .i64 0, .int .i64 0]) ∧ LW w' w'.heap.size A (convR rs) ∧ Bel W' w')) := fun W' => (E.parse_any hs W').mono (by
  rintro e w' ⟨A, c, h1, _, h2, h3⟩
  rw [hnn] at h1
  exact ⟨A, c, h1, rw_lw h2.out, h3⟩)
 have CL : Hid (∀ W' A c, LW W' W'.heap.size A (convR rs) → Bel W W' → Calls Tryz.prog 25 #[.slice A n c] W' (fun e w' => ∃ p x, e = .returned (.tuple #[.pointer (some ⟨p, 0, none⟩), .int .i64 0, .int .i64 0]) ∧ TabM W'.heap.size w' p x T ∧ Bel W' w')) := fun W' A c h1 hb => by
  have h2 := tload_h (c := c) h1 (n := n) (by rw [← hnn]; simp [convR]) (by omega) hz (tb.up hb.hid)
  rw [hT] at h2
  exact h2
 clear hs hT hz hn tb hnn
 go_enter Tryz.func9, Tryz.ntmps9
 go_wp2_with (first
  | (go_at_call 27; (with_reducible refine (CP.out _).mono ?_); rintro e w1 ⟨A, c, rfl, hlw, hb1⟩)
  | (go_at_call 25; (with_reducible refine (CL.out _ _ _ hlw hb1).mono ?_); rintro e w2 ⟨p, x, rfl, ht, hb2⟩)
  | fail)
 refine bodyPost_ret (v := .tuple #[.pointer (some ⟨p, 0, none⟩), .int .i64 0, .int .i64 0]) (by simp [results, Tryz.results9, go_sem]) rfl ?_
 exact ⟨w1.heap.size, p, x, hb1.sz, rfl, ht, hb1.up hb2.hid⟩
def awakeS : ByteArray := ⟨#[98, 97, 115, 101, 32, 109, 101, 116, 101, 114, 32, 108, 101, 110, 103, 116, 104, 10, 117, 110, 105, 116, 32, 102, 111, 111, 116, 32, 51, 56, 49, 47, 49, 50, 53, 48, 32, 109, 101, 116, 101, 114]⟩
def metricS : ByteArray := ⟨#[98, 97, 115, 101, 32, 109, 101, 116, 101, 114, 32, 108, 101, 110, 103, 116, 104, 10, 98, 97, 115, 101, 32, 115, 101, 99, 111, 110, 100, 32, 116, 105, 109, 101, 10, 98, 97, 115, 101, 32, 107, 101, 108, 118, 105, 110, 32, 116, 101, 109, 112, 101, 114, 97, 116, 117, 114, 101, 10, 112, 114, 101, 102, 105, 120, 32, 107, 105, 108, 111, 32, 49, 48, 32, 51, 10, 112, 114, 101, 102, 105, 120, 32, 109, 105, 108, 108, 105, 32, 49, 48, 32, 45, 51, 10, 117, 110, 105, 116, 32, 102, 111, 111, 116, 32, 51, 56, 49, 47, 49, 50, 53, 48, 32, 109, 101, 116, 101, 114, 10, 117, 110, 105, 116, 32, 105, 110, 99, 104, 32, 49, 47, 49, 50, 32, 102, 111, 111, 116, 10, 117, 110, 105, 116, 32, 121, 97, 114, 100, 32, 51, 32, 102, 111, 111, 116, 10, 117, 110, 105, 116, 32, 109, 105, 110, 117, 116, 101, 32, 54, 48, 32, 115, 101, 99, 111, 110, 100, 10, 117, 110, 105, 116, 32, 99, 101, 108, 115, 105, 117, 115, 32, 49, 32, 107, 101, 108, 118, 105, 110, 32, 50, 55, 51, 49, 53, 47, 49, 48, 48, 10, 117, 110, 105, 116, 32, 102, 97, 104, 114, 101, 110, 104, 101, 105, 116, 32, 53, 47, 57, 32, 107, 101, 108, 118, 105, 110, 32, 52, 53, 57, 54, 55, 47, 49, 56, 48, 10, 113, 117, 97, 110, 116, 105, 116, 121, 32, 115, 112, 101, 101, 100, 32, 109, 101, 116, 101, 114, 45, 112, 101, 114, 45, 115, 101, 99, 111, 110, 100, 10, 113, 117, 97, 110, 116, 105, 116, 121, 32, 97, 114, 101, 97, 32, 115, 113, 117, 97, 114, 101, 45, 109, 101, 116, 101, 114, 10, 97, 108, 105, 97, 115, 32, 107, 112, 104, 32, 107, 105, 108, 111, 109, 101, 116, 101, 114, 45, 112, 101, 114, 45, 115, 101, 99, 111, 110, 100, 10]⟩
def awakeR : List E.TRow := (E.tableOf awakeS).1
def metricR : List E.TRow := (E.tableOf metricS).1
def okD (r : Except (Int × Int) Tb) : Bool := match r with
 | .ok _ => true
 | .error _ => false
def tabD (r : Except (Int × Int) Tb) : Tb := match r with
 | .ok T => T
 | .error _ => Tb.nil
theorem okD_eq {r : Except (Int × Int) Tb} (h : okD r = true) : r = .ok (tabD r) := by
 cases r with
 | ok T => rfl
 | error v => cases h
def awakeT : Tb := tabD (Tb.nil.rows (convR awakeR))
def metricT : Tb := tabD (Tb.nil.rows (convR metricR))
theorem awake_rows : (E.tableOf awakeS).2 = (0, 0) := by decide +kernel
theorem metric_rows : (E.tableOf metricS).2 = (0, 0) := by decide +kernel
theorem awake_ok : okD (Tb.nil.rows (convR awakeR)) = true := by decide +kernel
theorem metric_ok : okD (Tb.nil.rows (convR metricR)) = true := by decide +kernel
theorem awake_len : awakeR.length = 2 := by decide +kernel
theorem metric_len : metricR.length = 14 := by decide +kernel
theorem awake_sz : (convR awakeR).all (fun r => r.2.all fun u => decide (u.size ≤ 2000000)) = true := by decide +kernel
theorem metric_sz : (convR metricR).all (fun r => r.2.all fun u => decide (u.size ≤ 2000000)) = true := by decide +kernel
theorem sz_all {rs : List (Int × List ByteArray)} (h : rs.all (fun r => r.2.all fun u => decide (u.size ≤ 2000000)) = true) : ∀ r ∈ rs, ∀ u ∈ r.2, u.size ≤ 2000000 := fun r hr u hu =>
 of_decide_eq_true (List.all_eq_true.1 (List.all_eq_true.1 h r hr) u hu)
theorem pair_eq {r : List E.TRow × Nat × Nat} (h : r.2 = (0, 0)) : r = (r.1, 0, 0) := by
 obtain ⟨a, b⟩ := r
 cases h
 rfl
theorem awake_load {W : World} (tb : Tabs W) : Calls Tryz.prog 9 #[.string awakeS] W (LoC W awakeT) := cload_h (pair_eq awake_rows) (okD_eq awake_ok) (sz_all awake_sz) (by show awakeR.length ≤ 900000; rw [awake_len]; omega) tb
theorem metric_load {W : World} (tb : Tabs W) : Calls Tryz.prog 9 #[.string metricS] W (LoC W metricT) := cload_h (pair_eq metric_rows) (okD_eq metric_ok) (sz_all metric_sz) (by show metricR.length ≤ 900000; rw [metric_len]; omega) tb
theorem metric_h (W : World) : Calls Tryz.prog 10 #[] W (fun e w' => e = .returned (.string metricS) ∧ Bel W w') := by
 go_enter Tryz.func10, Tryz.ntmps10
 go_wp2
 go_ret
 exact ⟨by first | rfl | (unfold metricS; decide +kernel) | kernel_rfl, Bel.refl W⟩
end Go.Proofs.YtfflmmbhpchloaaGreatDoor
end
section
open Go.RowKit
namespace Go.Proofs.YtfflmmbhpchloaaGreatDoor
def StrsT (W : World) (xs : List ByteArray) (e : Ending) (w' : World) : Prop := e = .returned (.slice (some ⟨W.heap.size, 0, none⟩) xs.length xs.length) ∧ w'.heap[W.heap.size]? = some (.cells (xs.map Value.string).toArray 9 (0, 0)) ∧ Hid (Below W.heap.size W w')
def SplitT (W : World) (xs : List ByteArray) (e : Ending) (w' : World) : Prop := e = .returned (.tuple #[.slice (some ⟨W.heap.size, 0, none⟩) xs.length xs.length, .int .i64 0]) ∧ w'.heap[W.heap.size]? = some (.cells (xs.map Value.string).toArray 9 (0, 0)) ∧ Hid (Below W.heap.size W w')
theorem tssplit_any (s : ByteArray) (w : World) (hs : s.size ≤ 1000000) : Calls Tryz.prog 53 #[.string s, .string ⟨#[45]⟩] w (StrsT w (pcs s)) := by
 have CG := yhide (fun W => gensplit_any s W hs)
 clear hs
 have HR : Hid (∀ o : List ByteArray, o = pcs s → StrsT w o (.returned (.slice (some ⟨w.heap.size, 0, none⟩) o.length o.length)) (w.alloc (.cells (o.map Value.string).toArray 9))) :=
  fun o _ => ⟨rfl, heap_alloc_new w _, (Below.refl _ _).alloc (Nat.le_refl _) _⟩
 obtain ⟨xs, hx⟩ : ∃ xs, xs = pcs s := ⟨_, rfl⟩
 have CH : Hid (∀ W, Calls Tryz.prog 92 #[.string s, .string ⟨#[45]⟩, .int .i64 0, .int .i64 (-1)] W fun e w' => e = .returned (.slice (some ⟨W.heap.size, 0, none⟩) xs.length xs.length) ∧ w' = W.alloc (.cells (xs.map Value.string).toArray 9)) := fun W => by
  rw [hx]; exact CG.out W
 have HX := yhide (HR.out xs hx)
 rw [← hx]
 clear CG HR hx
 go_enter Tryz.func53, Tryz.ntmps53
 go_wp2_with (first | (go_at_call 92; (with_reducible refine (CH.out _).mono ?_); rintro e w1 ⟨rfl, hw1⟩; rw [hw1]) | fail)
 go_ret
 exact HX.out
theorem twsplit_any {s : ByteArray} (hs : s.size ≤ 256) (w : World) : Calls Tryz.prog 28 #[.string s] w (if goodAll (pcs s) then SplitT w (pcs s) else SplitNo w 2) := by
 have d : decide ((256 : Int) < (s.size : Int)) = false := decide_eq_false (by omega)
 have CS := yhide (fun W => tssplit_any s W (by omega))
 have HL := yhide (pcs_le s)
 have HSZ := yhide hs
 obtain ⟨xs, hx⟩ : ∃ xs, xs = pcs s := ⟨_, rfl⟩
 rw [← hx] at CS HL ⊢
 obtain ⟨n, hn⟩ : ∃ n, n = xs.length := ⟨_, rfl⟩
 have hn2 : n ≤ 1000000 := by have := HL.out; omega
 have HN := yhide hn
 clear hx hn hs
 have HS : Hid (∀ W, goodAll xs = true → W.heap[w.heap.size]? = some (.cells (xs.map Value.string).toArray 9 (0, 0)) → Hid (Below w.heap.size w W) → (if goodAll xs then SplitT w xs else SplitNo w 2) (.returned (.tuple #[.slice (some ⟨w.heap.size, 0, none⟩) n n, .int .i64 0])) W) := fun W h2 h3 h4 => by
  rw [if_pos h2, HN.out]; exact ⟨rfl, h3, h4⟩
 have HB : Hid (∀ W, goodAll xs = false → Hid (Below w.heap.size w W) → (if goodAll xs then SplitT w xs else SplitNo w 2) (.returned (.tuple #[.slice none 0 0, .int .i64 2])) W) := fun W h2 h4 => by
  rw [if_neg (by rw [h2]; simp)]; exact ⟨rfl, h4⟩
 obtain ⟨Q, hQ⟩ : ∃ Q, Q = (if goodAll xs then SplitT w xs else SplitNo w 2) := ⟨_, rfl⟩
 rw [← hQ] at HS HB ⊢
 clear hQ
 go_enter Tryz.func28, Tryz.ntmps28
 go_wp2_with (first | (go_at_call 53; (with_reducible refine (CS.out _).mono ?_); rintro e w1 ⟨rfl, hrow, hbk⟩; rw [← HN.out]; have HRW := yhide hrow; clear hrow) | fail)
 go_loop [14] (fun iv => ∃ k : Nat, k ≤ n ∧ iv = .int .i64 (k : Int) ∧ Hid (goodAll (xs.take k) = true)) (fun iv => n - (intOf iv).toNat)
 case atStart => exact ⟨0, Nat.zero_le _, rfl, rfl⟩
 case round =>
  obtain ⟨k, hk, rfl, hall⟩ := hrel
  by_cases hlt : k < n
  ·have hx : k < xs.length := by rw [← HN.out]; exact hlt
   obtain ⟨x, hxe⟩ : ∃ x, x = xs[k] := ⟨_, rfl⟩
   have hcell : w1.cell? ⟨w.heap.size, k, none⟩ = some (.string x) := by
    rw [cell_of_row _ _ k _ _ (0, 0) HRW.out, hxe]
    simp [hx]
   have hb : w.heap.size < w1.heap.size := (Array.getElem?_eq_some_iff.1 HRW.out).1
   obtain ⟨b, hbe⟩ : ∃ b, b = goodW x.data.toList := ⟨_, rfl⟩
   have HG1 : Hid (goodAll (xs.take (k + 1)) = (goodAll (xs.take k) && b)) := by rw [hbe, hxe]; exact goodAll_take hx
   have HG2 : Hid (b = false → goodAll xs = false) := fun h => goodAll_false hx (by rw [← hxe, ← hbe, h])
   have CG : Hid (∀ W, Calls Tryz.prog 56 #[.string x] W fun e w' => e = .returned (.bool b) ∧ W = w') := fun W => by rw [hbe]; exact wgood_any x W
   clear hxe hbe hx
   cases b
   ·go_wp2_with (first | (go_at_call 56; (with_reducible refine (CG.out _).mono ?_); rintro e w2 ⟨rfl, rfl⟩) | fail)
    exact HB.out _ (HG2.out (by first | rfl | trivial)) hbk
   ·go_wp2_with (first | (go_at_call 56; (with_reducible refine (CG.out _).mono ?_); rintro e w2 ⟨rfl, rfl⟩) | fail)
    go_round
    case rel => exact ⟨k + 1, by omega, by go_num, by unfold Hid; rw [HG1.out, hall.out]; rfl⟩
    case measure => simp [intOf]; omega
  ·obtain rfl : k = n := by omega
   have HG : Hid (goodAll xs = true) := by
    have := hall.out
    rwa [List.take_of_length_le (by rw [← HN.out]; exact Nat.le_refl _)] at this
   go_wp2
   exact HS.out _ HG.out HRW.out hbk
def AppR (W0 : World) (zs : List ByteArray) (e : Ending) (w' : World) : Prop := ∃ R c z, Hid (z = zs.length) ∧ e = .returned (.slice R z c) ∧ Hid (w'.ownsRow W0.heap.size 9 1 (.slice R z c) z (zs.map Value.string)) ∧ Hid (Below W0.heap.size W0 w')
theorem appendShown_any {W0 : World} {A R : Option Addr} {n c z cp : Nat} {l : List AL} {xs : List ByteArray} {w : World} (hB : Hid (Below W0.heap.size W0 w)) (h : Cs W0 A (cellsA l)) (hn : n = l.length) (hl : n ≤ 1000) (hz : z = xs.length) (hzl : z ≤ 1000000) (ho : Hid (w.ownsRow W0.heap.size 9 1 (.slice R z cp) z (xs.map Value.string))) (hs : ∀ a ∈ l, a.1.size ≤ 2000000 ∧ a.2.1.size ≤ 2000000) :
 Calls Tryz.prog 64 #[.slice R z cp, .slice A n c] w (AppR W0 (xs ++ showsA l)) := by
 have HN := khide hn
 have HS := khide hs
 have HZ := khide hz
 obtain ⟨i0, hi, hz0, hz1, hz2⟩ := info_parts hinfoStr
 have J0 := khide hi; have Y0 := khide hz0; have Y1 := khide hz1; have Y2 := khide hz2
 clear hi hz0 hz1 hz2 hn hs hz
 go_enter Tryz.func64, Tryz.ntmps64
 go_wp2
 go_loopw [0, 9] (fun rv iv wr => ∃ (k cp q : Nat) (R : Option Addr), k ≤ n ∧ iv = .int .i64 (k : Int) ∧ rv = .slice R q cp ∧ q = z + k ∧ Hid (wr.ownsRow W0.heap.size 9 1 (.slice R q cp) q ((xs ++ showsA (l.take k)).map Value.string)) ∧ Hid (Below W0.heap.size W0 wr)) (fun _ iv _ => n - (intOf iv).toNat)
 case atStart => exact ⟨0, cp, z, R, Nat.zero_le _, rfl, rfl, rfl, (by rw [show xs ++ showsA (l.take 0) = xs by simp [showsA]]; exact ho), hB⟩
 case round =>
  clear ho hB
  obtain ⟨k, cp, q, R, hk, rfl, rfl, hq, HO, HB⟩ := hrel
  by_cases hlt : k < n
  ·obtain ⟨a, ha⟩ : ∃ a, l[k]? = some a := ⟨l[k]'(by rw [← HN.out]; exact hlt), List.getElem?_eq_getElem _⟩
   obtain ⟨ad, rfl, had, a0, a1, a2⟩ := cs_at3 (h.up HB) ha
   obtain ⟨p, nm, pk⟩ := a
   have HSZ : Hid (p.size ≤ 2000000 ∧ nm.size ≤ 2000000) := HS.out _ (List.mem_of_getElem? ha)
   obtain ⟨s, hse⟩ : ∃ s, showB p nm pk = s := ⟨_, rfl⟩
   have C0 : Hid (∀ W : World, Calls Tryz.prog 99 #[.agg #[.string p, .string nm, .int .i64 pk]] W (StrR W s)) := fun W => hse ▸ show_any (by have := HSZ.out; omega) W
   have HX : Hid ((xs ++ showsA (l.take (k + 1))).map Value.string = (xs ++ showsA (l.take k)).map Value.string ++ [.string s]) := by
    obtain ⟨hx, hx2⟩ := List.getElem?_eq_some_iff.1 ha
    unfold Hid
    rw [List.take_succ_eq_append_getElem hx, hx2]
    unfold showsA
    have e1 : (l.take k ++ [(p, nm, pk)]).map showA = (l.take k).map showA ++ [s] := by rw [List.map_append, ← hse]; rfl
    rw [e1, ← List.append_assoc, List.map_append]
    rfl
   have HBS : Hid (W0.heap.size ≤ wr.heap.size) := HB.out.size
   have k0 : (0 : Int) ≤ (k : Int) := by omega
   have k1 : (k : Int) < (n : Int) := by omega
   have hql : q ≤ 1001000 := by omega
   have HQ := khide hq
   clear ha hse hq
   go_wp2_with (first | (go_at_call 99; (with_reducible refine (C0.out _).mono ?_); rintro e w2 ⟨rfl, hb2⟩) | (at_builtin; go_must (refine wpList_append_own _ rfl (.tmp 13) (.tmp 16) 60 rfl W0.heap.size 9 i0 (.string ByteArray.empty) 1 16 Tryz.underlying60 J0.out Y0.out Y1.out Y2.out rfl (by decide) _ _ _ rfl ((own_up (HO.out.alloc _) hb2).alloc _) ⟨w2.heap.size, 0, none⟩ 1 1 [.string s] rfl rfl (at_news (at_new0 _ _ _)) (one_str _) (by simp only [maxLen]; omega) (by omega) (Nat.le_trans HBS.out (Nat.le_trans (Nat.le_trans (by simp) hb2.out.size) (by simp))) ?_); intro v1 w3 ho1 hg1 hn1; clear hn1) | fail)
   have hg2 : (w2.alloc (.cells #[.string s] 9)).grownBy w3 (Value.slice R q cp).ownBlock := hg1
   have HO2 := own_up (HO.out.alloc (.cells #[.string p, .string nm, .int .i64 pk] 96)) hb2
   have HB2 : Hid (Below W0.heap.size W0 w2) := (HB.out.alloc HBS.out _).trans (hb2.out.mono (Nat.le_trans HBS.out (by simp)))
   have HB3 : Hid (Below W0.heap.size W0 w3) := (HB2.out.alloc HB2.out.size _).grown hg2 (HB2.out.alloc HB2.out.size _).size (fun g' e => (HO2.lt g' e).1)
   obtain ⟨R2, cp2, rfl, _⟩ := own_slice ho1
   have HO3 := khide ho1
   clear hg1 hg2 ho1 HO2
   go_roundw
   case rel =>
    refine ⟨k + 1, cp2, q + 1, R2, by omega, by go_num, rfl, (by have := HQ.out; omega), ?_, HB3⟩
    rw [HX.out]
    exact HO3
   case measure => simp [intOf]; omega
  ·obtain rfl : k = n := by omega
   go_wp2
   go_ret
   have h3 := HO.out
   rw [List.take_of_length_le (by rw [← HN.out]; exact Nat.le_refl _)] at h3
   have e : (xs ++ showsA l).length = q := by unfold showsA; rw [List.length_append, List.length_map, ← HN.out, ← HZ.out, hq]
   exact ⟨R, cp, q, e.symm, rfl, h3, HB⟩
end Go.Proofs.YtfflmmbhpchloaaGreatDoor
end
