/- Each theorem here says its own conditions. -/
import Derived.Test.YtfflmmbhpchloaaGreatDoorGTkwc40
set_option maxRecDepth 100000
set_option maxHeartbeats 16000000
section
open Go.RowKit
open Go.Proofs.YtfflmmbhpchloaaGreatDoor.V
namespace Go.Proofs.YtfflmmbhpchloaaGreatDoor
def BoxT (W : World) (q : Nat) (vs : List Value) (t : TypeId) : Prop := W.heap[q]? = some (.cells vs.toArray t (0, 0))
theorem BoxT.lt {W : World} {q : Nat} {vs : List Value} {t : TypeId} (h : BoxT W q vs t) : q < W.heap.size := (Array.getElem?_eq_some_iff.1 h).1
theorem BoxT.up {W W' : World} {q : Nat} {vs : List Value} {t : TypeId} (h : BoxT W q vs t) (hb : Hid (Below W.heap.size W W')) : BoxT W' q vs t := (hb.out.block q h.lt).trans h
theorem BoxT.far {W : World} {q q' i : Nat} {vs : List Value} {t : TypeId} (h : BoxT W q vs t) (hn : q' ≠ q) (u : Value) : BoxT (W.setCell ⟨q', i, none⟩ u) q vs t := ((Turn.set W ⟨q', i, none⟩ u).block q h.lt (by simpa using Ne.symm hn)).trans h
theorem boxT_new (W : World) (vs : List Value) (t : TypeId) : BoxT (W.alloc (.cells vs.toArray t)) W.heap.size vs t := heap_alloc_new W _
theorem ku_row {W : World} {q : Nat} {vs : List Value} {t : TypeId} {cs : Array Value} (h : BoxT W q vs t) (hv : ∀ v ∈ vs, ∀ x, v ≠ U32 x) : KU W (W.setRow q cs) := by
 refine ⟨by simp [World.setRow], fun a x hc => ?_⟩
 by_cases ha : a.block = q
 ·exfalso
  obtain ⟨b, o, rfl⟩ := plainT hc
  have hb : b = q := ha
  subst hb
  rw [cell_of_row _ _ o _ _ (0, 0) h] at hc
  have h1 : vs[o]? = some (U32 x) := by simpa using hc
  exact hv _ (List.mem_of_getElem? h1) x rfl
 ·have e : (W.setRow q cs).heap[a.block]? = W.heap[a.block]? := setRow_other W q a.block cs ha
  obtain ⟨b, o, rfl⟩ := plainT hc
  exact (cell_same e o).trans hc
section
variable {base p : Nat} {W : World} {x : TPl} {T : Tb} {s : ByteArray}
def EnR (W : World) (s : ByteArray) (o : Option Ent) (e : Ending) (w' : World) : Prop := match o with
 | none => e = .returned (.tuple #[.agg #[.string ⟨#[]⟩, .string ⟨#[]⟩, .int .i64 0, .bool false, .slice none 0 0, .slice none 0 0, .bool false, .slice none 0 0, .slice none 0 0, .bool false], .bool false]) ∧ Bel W w'
 | some m => ∃ b A n c A' n' c' b2 B k d B' k' d', e = .returned (.tuple #[.agg #[.string s, .string m.id, .int .i64 m.base, .bool b, .slice A n c, .slice A' n' c', .bool b2, .slice B k d, .slice B' k' d', .bool m.has], .bool true]) ∧ QA w' b A n c A' n' c' m.fac 101 ∧ QA w' b2 B k d B' k' d' m.off 101 ∧ Bel W w'
theorem tentry_h (h : TabM base W p x T) (hs : s.size ≤ 9223372036854775807) : Calls Tryz.prog 16 #[.pointer (some ⟨p, 0, none⟩), .string s] W (EnR W s (lookL T.ents s)) := by
 obtain ⟨nm, id, ba, s1, A1, n1, c1, A2, n2, c2, s2, B1, m1, d1, B2, m2, d2, ho, v, k1, _, k2, _⟩ := h.look hs
 have HM := khide h
 obtain ⟨W1, hW1⟩ : ∃ X, X = W.alloc (.cells #[.string ⟨#[]⟩, .string ⟨#[]⟩, .int .i64 0, .bool false, .slice none 0 0, .slice none 0 0, .bool false, .slice none 0 0, .slice none 0 0, .bool false] 55) := ⟨_, rfl⟩
 have HX : BoxT W1 W.heap.size [.string ⟨#[]⟩, .string ⟨#[]⟩, .int .i64 0, .bool false, .slice none 0 0, .slice none 0 0, .bool false, .slice none 0 0, .slice none 0 0, .bool false] 55 := by rw [hW1]; exact boxT_new _ _ _
 have HB : Bel W W1 := by rw [hW1]; exact (Bel.refl W).al _
 have HW := khide hW1
 obtain ⟨qx, hqx⟩ : ∃ k, k = W.heap.size := ⟨_, rfl⟩
 rw [← hqx] at HX
 have HQX : Hid (W.heap.size ≤ qx) := by unfold Hid; omega
 cases hl : lookL T.ents s with
 | none =>
   rw [hl] at k1
   have K1 := khide k1
   clear hl k1 k2 h hs hW1
   go_enter Tryz.func16, Tryz.ntmps16
   go_upto_region 1 with fail
   rw [← HW.out, show Value.pointer (some ⟨W.heap.size, 0, none⟩) = Value.pointer (some ⟨qx, 0, none⟩) by rw [hqx]]
   clear hqx HW
   have HM1 := khide (HM.out.up HB.hid)
   have q2 := HM1.out.c2; have qp := HM1.out.lt
   have k1 := K1.out W1 (Turn.of HB.hid)
   go_upto_region 2 with (first | (refine wpList_store_new 98 [.string nm, .string id, .int .i64 ba, .bool s1, .slice A1 n1 c1, .slice A2 n2 c2, .bool s2, .slice B1 m1 d1, .slice B2 m2 d2, .bool ho, .int .i64 v.x0, .int .i64 v.x1, .int .i64 v.x2, .int .i64 v.x3, .int .i64 v.x4, .int .i64 v.x5, .int .i64 v.x6, .int .i64 v.x7] (.tmp 6) (.tmp 16) _ rfl rfl rfl rfl (by kernel_rfl) rfl rfl ?_) | fail)
   refine kwp_named ?_
   intro W3 hW3
   have hb3 : Bel W1 W3 := by rw [hW3]; exact (Bel.refl W1).al _
   have HA : At W3 W1.heap.size [.string nm, .string id, .int .i64 ba, .bool s1, .slice A1 n1 c1, .slice A2 n2 c2, .bool s2, .slice B1 m1 d1, .slice B2 m2 d2, .bool ho, .int .i64 v.x0, .int .i64 v.x1, .int .i64 v.x2, .int .i64 v.x3, .int .i64 v.x4, .int .i64 v.x5, .int .i64 v.x6, .int .i64 v.x7] := by rw [hW3]; exact at_new0 _ _ _
   obtain ⟨qm, hqm⟩ : ∃ k, k = W1.heap.size := ⟨_, rfl⟩
   rw [← hqm] at HA ⊢
   clear hW3 q2 qp k1 HM1 hqm
   replace HX := HX.up (Bel.hid hb3)
   replace HB := HB.up (Bel.hid hb3)
   clear hb3
   go_upto_region 3 with fail
   go_wp2_with (first | (refine wpList_store_row rfl 55 (.tmp 4) (.tmp 20) rfl qx #[.string ⟨#[]⟩, .string ⟨#[]⟩, .int .i64 0, .bool false, .slice none 0 0, .slice none 0 0, .bool false, .slice none 0 0, .slice none 0 0, .bool false] rfl rfl 55 _ HX (by kernel_rfl) rfl (by first | kernel_rfl | simp [Value.oneCell']) ?_) | fail)
   refine vname_end ?_
   intro W4 hW4
   have HX4 : At W4 qx [.string ⟨#[]⟩, .string ⟨#[]⟩, .int .i64 0, .bool false, .slice none 0 0, .slice none 0 0, .bool false, .slice none 0 0, .slice none 0 0, .bool false] := by rw [hW4]; exact at_row HX
   have HB4 : Bel W W4 := by rw [hW4]; exact bel_row HB HQX.out
   clear hW4
   have x0 := HX4.c0; have x1 := HX4.c1; have x2 := HX4.c2; have x3 := at_nth HX4 3 rfl; have x4 := at_nth HX4 4 rfl; have x5 := at_nth HX4 5 rfl; have x6 := at_nth HX4 6 rfl; have x7 := at_nth HX4 7 rfl; have x8 := at_nth HX4 8 rfl; have x9 := at_nth HX4 9 rfl; have xl := HX4.lt
   refine bodyPost_ret (v := .tuple #[.agg #[.string ⟨#[]⟩, .string ⟨#[]⟩, .int .i64 0, .bool false, .slice none 0 0, .slice none 0 0, .bool false, .slice none 0 0, .slice none 0 0, .bool false], .bool false]) (by simp [results, Tryz.results16, go_sem, x0, x1, x2, x3, x4, x5, x6, x7, x8, x9, xl]) rfl ?_
   exact ⟨rfl, HB4⟩
 | some m =>
   obtain ⟨hnm, rfl, rfl, rfl, rfl, hq1, hq2⟩ := k2 m hl
   obtain rfl : s = nm := hnm.symm
   rw [hl] at k1
   have K1 := khide k1
   obtain ⟨id, ba, fac, off, ho, v, full⟩ := m
   dsimp only at hq1 hq2 K1 ⊢
   have CF : Hid (∀ W', Bel W W' → Calls Tryz.prog 36 #[.agg #[.bool s1, .slice A1 n1 c1, .slice A2 n2 c2]] W' (FrR W' s1 n1 n2 fac 101)) := fun W' hb => tfresh_h (hq1.up hb.hid)
   have CG : Hid (∀ W', Bel W W' → Calls Tryz.prog 36 #[.agg #[.bool s2, .slice B1 m1 d1, .slice B2 m2 d2]] W' (FrR W' s2 m1 m2 off 101)) := fun W' hb => tfresh_h (hq2.up hb.hid)
   clear hl k1 k2 h hs hW1 hq1 hq2
   go_enter Tryz.func16, Tryz.ntmps16
   go_upto_region 1 with fail
   rw [← HW.out, show Value.pointer (some ⟨W.heap.size, 0, none⟩) = Value.pointer (some ⟨qx, 0, none⟩) by rw [hqx]]
   clear hqx HW
   have HM1 := khide (HM.out.up HB.hid)
   have q2 := HM1.out.c2; have qp := HM1.out.lt
   have k1 := K1.out W1 (Turn.of HB.hid)
   go_upto_region 2 with (first | (refine wpList_store_new 98 [.string s, .string id, .int .i64 ba, .bool s1, .slice A1 n1 c1, .slice A2 n2 c2, .bool s2, .slice B1 m1 d1, .slice B2 m2 d2, .bool ho, .int .i64 v.x0, .int .i64 v.x1, .int .i64 v.x2, .int .i64 v.x3, .int .i64 v.x4, .int .i64 v.x5, .int .i64 v.x6, .int .i64 v.x7] (.tmp 6) (.tmp 16) _ rfl rfl rfl rfl (by kernel_rfl) rfl rfl ?_) | fail)
   refine kwp_named ?_
   intro W3 hW3
   have hb3 : Bel W1 W3 := by rw [hW3]; exact (Bel.refl W1).al _
   have HA : At W3 W1.heap.size [.string s, .string id, .int .i64 ba, .bool s1, .slice A1 n1 c1, .slice A2 n2 c2, .bool s2, .slice B1 m1 d1, .slice B2 m2 d2, .bool ho, .int .i64 v.x0, .int .i64 v.x1, .int .i64 v.x2, .int .i64 v.x3, .int .i64 v.x4, .int .i64 v.x5, .int .i64 v.x6, .int .i64 v.x7] := by rw [hW3]; exact at_new0 _ _ _
   obtain ⟨qm, hqm⟩ : ∃ k, k = W1.heap.size := ⟨_, rfl⟩
   rw [← hqm] at HA ⊢
   clear hW3 q2 qp k1 HM1 hqm
   replace HX := HX.up (Bel.hid hb3)
   replace HB := HB.up (Bel.hid hb3)
   clear hb3
   have a0 := HA.c0; have a1 := HA.c1; have a2 := HA.c2; have a3 := at_nth HA 3 rfl; have a4 := at_nth HA 4 rfl; have a5 := at_nth HA 5 rfl; have a6 := at_nth HA 6 rfl; have a7 := at_nth HA 7 rfl; have a8 := at_nth HA 8 rfl; have a9 := at_nth HA 9 rfl; have al := HA.lt
   go_upto_region 5 with (first | (refine wpList_store_new 55 [.string s, .string id, .int .i64 ba, .bool s1, .slice A1 n1 c1, .slice A2 n2 c2, .bool s2, .slice B1 m1 d1, .slice B2 m2 d2, .bool ho] (.tmp 8) (.tmp 22) _ rfl rfl rfl rfl (by kernel_rfl) rfl rfl ?_) | fail)
   refine kwp_named ?_
   intro W4 hW4
   have HXL : Hid (qx < W3.heap.size) := HX.lt
   have hb4 : Bel W3 W4 := by rw [hW4]; exact (Bel.refl W3).al _
   have HY : At W4 W3.heap.size [.string s, .string id, .int .i64 ba, .bool s1, .slice A1 n1 c1, .slice A2 n2 c2, .bool s2, .slice B1 m1 d1, .slice B2 m2 d2, .bool ho] := by rw [hW4]; exact at_new0 _ _ _
   replace HX := HX.up (Bel.hid hb4)
   replace HB := HB.up (Bel.hid hb4)
   have HQY : Hid (W.heap.size ≤ W3.heap.size) := Nat.le_trans HQX.out (Nat.le_of_lt HXL.out)
   obtain ⟨qy, hqy⟩ : ∃ k, k = W3.heap.size := ⟨_, rfl⟩
   rw [← hqy] at HY HXL HQY ⊢
   clear hW4 hqy hb4 a0 a1 a2 a3 a4 a5 a6 a7 a8 a9 al HA
   (try simp only [lay7, Act.put])
   go_cut [29] from 23 to 30 (fun _ w' => ∃ F1 f1 F2 f2 G1 g1 G2 g2, At w' qy [.string s, .string id, .int .i64 ba, .bool s1, .slice F1 n1 f1, .slice F2 n2 f2, .bool s2, .slice G1 m1 g1, .slice G2 m2 g2, .bool ho] ∧ QA w' s1 F1 n1 f1 F2 n2 f2 fac 101 ∧ QA w' s2 G1 m1 g1 G2 m2 g2 off 101 ∧ BoxT w' qx [.string ⟨#[]⟩, .string ⟨#[]⟩, .int .i64 0, .bool false, .slice none 0 0, .slice none 0 0, .bool false, .slice none 0 0, .slice none 0 0, .bool false] 55 ∧ Bel W w')
   case first =>
    have y3 := (HY.all 3 _ rfl).1; have yf3 := (HY.all 3 _ rfl).2; have y4 := (HY.all 4 _ rfl).1; have yf4 := (HY.all 4 _ rfl).2; have y5 := (HY.all 5 _ rfl).1; have yf5 := (HY.all 5 _ rfl).2; have y6 := (HY.all 6 _ rfl).1; have yf6 := (HY.all 6 _ rfl).2; have y7 := (HY.all 7 _ rfl).1; have yf7 := (HY.all 7 _ rfl).2; have y8 := (HY.all 8 _ rfl).1; have yf8 := (HY.all 8 _ rfl).2; have yl := HY.lt
    go_region_with (first | (go_at_call 36; (with_reducible refine (CF.out _ HB.dr).mono ?_); rintro e w5 ⟨F1, f1, F2, f2, rfl, hf, hbk⟩; clear y3 yf3 y4 yf4 y5 yf5 y6 yf6 y7 yf7 y8 yf8 yl; replace HY := HY.dr.up (Bel.hid hbk); replace HX := BoxT.up (W := W4.drew) HX (Bel.hid hbk); replace HB := HB.dr.up (Bel.hid hbk); have y3 := (HY.all 3 _ rfl).1; have yf3 := (HY.all 3 _ rfl).2; have y4 := (HY.all 4 _ rfl).1; have yf4 := (HY.all 4 _ rfl).2; have y5 := (HY.all 5 _ rfl).1; have yf5 := (HY.all 5 _ rfl).2; have y6 := (HY.all 6 _ rfl).1; have yf6 := (HY.all 6 _ rfl).2; have y7 := (HY.all 7 _ rfl).1; have yf7 := (HY.all 7 _ rfl).2; have y8 := (HY.all 8 _ rfl).1; have yf8 := (HY.all 8 _ rfl).2; have yl := HY.lt) | (go_at_call 36; (with_reducible refine (CG.out _ HB).mono ?_); rintro e w6 ⟨G1, g1, G2, g2, rfl, hg, hbk2⟩; clear y3 yf3 y4 yf4 y5 yf5 y6 yf6 y7 yf7 y8 yf8 yl; replace HY := HY.up (Bel.hid hbk2); replace HX := HX.up (Bel.hid hbk2); replace HB := HB.up (Bel.hid hbk2); replace hf := hf.up (Bel.hid hbk2); have y3 := (HY.all 3 _ rfl).1; have yf3 := (HY.all 3 _ rfl).2; have y4 := (HY.all 4 _ rfl).1; have yf4 := (HY.all 4 _ rfl).2; have y5 := (HY.all 5 _ rfl).1; have yf5 := (HY.all 5 _ rfl).2; have y6 := (HY.all 6 _ rfl).1; have yf6 := (HY.all 6 _ rfl).2; have y7 := (HY.all 7 _ rfl).1; have yf7 := (HY.all 7 _ rfl).2; have y8 := (HY.all 8 _ rfl).1; have yf8 := (HY.all 8 _ rfl).2; have yl := HY.lt) | fail)
    all_goals
     go_wp2_with fail
     go_meet
     case rel =>
      refine ⟨F1, f1, F2, f2, G1, g1, G2, g2, ?_, ?_, ?_, ?_, ?_⟩
      ·exact ent_put6 (ent_put3 HY _ _ _) _ _ _
      ·exact (hf.ku (ku_put3 HY _ _ _)).ku (ku_put6 (ent_put3 HY _ _ _) _ _ _)
      ·exact (hg.ku (ku_put3 HY _ _ _)).ku (ku_put6 (ent_put3 HY _ _ _) _ _ _)
      ·exact (((((HX.far (Nat.ne_of_gt HXL.out) _).far (Nat.ne_of_gt HXL.out) _).far (Nat.ne_of_gt HXL.out) _).far (Nat.ne_of_gt HXL.out) _).far (Nat.ne_of_gt HXL.out) _).far (Nat.ne_of_gt HXL.out) _
      ·exact (((((HB.put HQY.out _).put HQY.out _).put HQY.out _).put HQY.out _).put HQY.out _).put HQY.out _
   case rest =>
   obtain ⟨F1, f1, F2, f2, G1, g1, G2, g2, HY7, hf, hg, HX7, HB7⟩ := hcut
   have a0 := HY7.c0; have a1 := HY7.c1; have a2 := HY7.c2; have a3 := at_nth HY7 3 rfl; have a4 := at_nth HY7 4 rfl; have a5 := at_nth HY7 5 rfl; have a6 := at_nth HY7 6 rfl; have a7 := at_nth HY7 7 rfl; have a8 := at_nth HY7 8 rfl; have a9 := at_nth HY7 9 rfl; have al := HY7.lt
   clear HX HB HY
   go_wp2_with (first | (refine wpList_store_row rfl 55 (.tmp 4) (.tmp 31) rfl qx #[.string s, .string id, .int .i64 ba, .bool s1, .slice F1 n1 f1, .slice F2 n2 f2, .bool s2, .slice G1 m1 g1, .slice G2 m2 g2, .bool ho] rfl rfl 55 _ HX7 (by kernel_rfl) rfl (by first | kernel_rfl | simp [Value.oneCell']) ?_) | fail)
   refine vname_end ?_
   intro W8 hW8
   have HX4 : At W8 qx [.string s, .string id, .int .i64 ba, .bool s1, .slice F1 n1 f1, .slice F2 n2 f2, .bool s2, .slice G1 m1 g1, .slice G2 m2 g2, .bool ho] := by rw [hW8]; exact at_row HX7
   have HB8 : Bel W W8 := by rw [hW8]; exact bel_row HB7 HQX.out
   have K8 := ku_row (cs := #[.string s, .string id, .int .i64 ba, .bool s1, .slice F1 n1 f1, .slice F2 n2 f2, .bool s2, .slice G1 m1 g1, .slice G2 m2 g2, .bool ho]) HX7 (by intro v hv; simp at hv; rcases hv with rfl | rfl | rfl | rfl | rfl | rfl | rfl | rfl | rfl | rfl <;> intro x e <;> cases e)
   rw [← hW8] at K8
   clear hW8 a0 a1 a2 a3 a4 a5 a6 a7 a8 a9 al
   have x0 := HX4.c0; have x1 := HX4.c1; have x2 := HX4.c2; have x3 := at_nth HX4 3 rfl; have x4 := at_nth HX4 4 rfl; have x5 := at_nth HX4 5 rfl; have x6 := at_nth HX4 6 rfl; have x7 := at_nth HX4 7 rfl; have x8 := at_nth HX4 8 rfl; have x9 := at_nth HX4 9 rfl; have xl := HX4.lt
   refine bodyPost_ret (v := .tuple #[.agg #[.string s, .string id, .int .i64 ba, .bool s1, .slice F1 n1 f1, .slice F2 n2 f2, .bool s2, .slice G1 m1 g1, .slice G2 m2 g2, .bool ho], .bool true]) (by simp [results, Tryz.results16, go_sem, x0, x1, x2, x3, x4, x5, x6, x7, x8, x9, xl]) rfl ?_
   exact ⟨s1, F1, n1, f1, F2, n2, f2, s2, G1, m1, g1, G2, m2, g2, rfl, hf.ku K8, hg.ku K8, HB8⟩
end
def convR (rs : List E.TRow) : List (Int × List ByteArray) := rs.map fun r => ((r.1 : Int), r.2)
theorem rw_lw {w : World} {B : Nat} {A : Option Addr} {rs : List E.TRow} (h : E.RW w B A rs) : LW w B A (convR rs) := fun hn => by
 unfold convR at hn ⊢
 rw [List.length_map] at hn
 obtain ⟨g, vs, e, hb, hl, hc⟩ := h hn
 refine ⟨g, 0, e, hb, fun j r hj => ?_⟩
 rw [List.getElem?_map, Option.map_eq_some_iff] at hj
 obtain ⟨r0, hr0, rfl⟩ := hj
 have hjl : j < vs.length := by rw [hl]; exact (List.getElem?_eq_some_iff.1 hr0).1
 obtain ⟨h1, h2, A', c, h3, _, h5, h6⟩ := hc j r0 _ hr0 (List.getElem?_eq_getElem hjl)
 exact ⟨A', c, by rw [Nat.zero_add]; exact h1, by rw [Nat.zero_add, h2, h3], h5, h6⟩
def LoC (W : World) (T : Tb) (e : Ending) (w' : World) : Prop := ∃ base p x, W.heap.size ≤ base ∧ e = .returned (.tuple #[.pointer (some ⟨p, 0, none⟩), .int .i64 0, .int .i64 0]) ∧ TabM base w' p x T ∧ Bel W w'
theorem cload_h {W : World} {s : ByteArray} {rs : List E.TRow} {T : Tb} (hs : E.tableOf s = (rs, 0, 0)) (hT : Tb.nil.rows (convR rs) = .ok T) (hz : ∀ r ∈ convR rs, ∀ u ∈ r.2, u.size ≤ 2000000) (hn : rs.length ≤ 900000) (tb : Tabs W) :
 Calls Tryz.prog 9 #[.string s] W (LoC W T) := by
 obtain ⟨n, hnn⟩ : ∃ k, rs.length = k := ⟨_, rfl⟩
 have CP : Hid (∀ W', Calls Tryz.prog 27 #[.string s] W' (fun e w' => ∃ A c, e = .returned (.tuple #[.slice A n c, .int .i64 0, .int .i64 0]) ∧ LW w' w'.heap.size A (convR rs) ∧ Bel W' w')) := fun W' => (E.parse_any hs W').mono (by
  rintro e w' ⟨A, c, h1, _, h2, h3⟩
  rw [hnn] at h1
  exact ⟨A, c, h1, rw_lw h2.out, h3⟩)
 have CL : Hid (∀ W' A c, LW W' W'.heap.size A (convR rs) → Bel W W' → Calls Tryz.prog 25 #[.slice A n c] W' (fun e w' => ∃ p x, e = .returned (.tuple #[.pointer (some ⟨p, 0, none⟩), .int .i64 0, .int .i64 0]) ∧ TabM W'.heap.size w' p x T ∧ Bel W' w')) := fun W' A c h1 hb => by
  have h2 := tload_h (c := c) h1 (n := n) (by rw [← hnn]; simp [convR]) (by omega) hz (tb.up hb.hid)
  rw [hT] at h2
  exact h2
 clear hs hT hz hn tb hnn
 go_enter Tryz.func9, Tryz.ntmps9
 go_wp2_with (first
  | (go_at_call 27; (with_reducible refine (CP.out _).mono ?_); rintro e w1 ⟨A, c, rfl, hlw, hb1⟩)
  | (go_at_call 25; (with_reducible refine (CL.out _ _ _ hlw hb1).mono ?_); rintro e w2 ⟨p, x, rfl, ht, hb2⟩)
  | fail)
 refine bodyPost_ret (v := .tuple #[.pointer (some ⟨p, 0, none⟩), .int .i64 0, .int .i64 0]) (by simp [results, Tryz.results9, go_sem]) rfl ?_
 exact ⟨w1.heap.size, p, x, hb1.sz, rfl, ht, hb1.up hb2.hid⟩
def awakeS : ByteArray := ⟨#[98, 97, 115, 101, 32, 109, 101, 116, 101, 114, 32, 108, 101, 110, 103, 116, 104, 10, 117, 110, 105, 116, 32, 102, 111, 111, 116, 32, 51, 56, 49, 47, 49, 50, 53, 48, 32, 109, 101, 116, 101, 114]⟩
def metricS : ByteArray := ⟨#[98, 97, 115, 101, 32, 109, 101, 116, 101, 114, 32, 108, 101, 110, 103, 116, 104, 10, 98, 97, 115, 101, 32, 115, 101, 99, 111, 110, 100, 32, 116, 105, 109, 101, 10, 98, 97, 115, 101, 32, 107, 101, 108, 118, 105, 110, 32, 116, 101, 109, 112, 101, 114, 97, 116, 117, 114, 101, 10, 112, 114, 101, 102, 105, 120, 32, 107, 105, 108, 111, 32, 49, 48, 32, 51, 10, 112, 114, 101, 102, 105, 120, 32, 109, 105, 108, 108, 105, 32, 49, 48, 32, 45, 51, 10, 117, 110, 105, 116, 32, 102, 111, 111, 116, 32, 51, 56, 49, 47, 49, 50, 53, 48, 32, 109, 101, 116, 101, 114, 10, 117, 110, 105, 116, 32, 105, 110, 99, 104, 32, 49, 47, 49, 50, 32, 102, 111, 111, 116, 10, 117, 110, 105, 116, 32, 121, 97, 114, 100, 32, 51, 32, 102, 111, 111, 116, 10, 117, 110, 105, 116, 32, 109, 105, 110, 117, 116, 101, 32, 54, 48, 32, 115, 101, 99, 111, 110, 100, 10, 117, 110, 105, 116, 32, 99, 101, 108, 115, 105, 117, 115, 32, 49, 32, 107, 101, 108, 118, 105, 110, 32, 50, 55, 51, 49, 53, 47, 49, 48, 48, 10, 117, 110, 105, 116, 32, 102, 97, 104, 114, 101, 110, 104, 101, 105, 116, 32, 53, 47, 57, 32, 107, 101, 108, 118, 105, 110, 32, 52, 53, 57, 54, 55, 47, 49, 56, 48, 10, 113, 117, 97, 110, 116, 105, 116, 121, 32, 115, 112, 101, 101, 100, 32, 109, 101, 116, 101, 114, 45, 112, 101, 114, 45, 115, 101, 99, 111, 110, 100, 10, 113, 117, 97, 110, 116, 105, 116, 121, 32, 97, 114, 101, 97, 32, 115, 113, 117, 97, 114, 101, 45, 109, 101, 116, 101, 114, 10, 97, 108, 105, 97, 115, 32, 107, 112, 104, 32, 107, 105, 108, 111, 109, 101, 116, 101, 114, 45, 112, 101, 114, 45, 115, 101, 99, 111, 110, 100, 10]⟩
def awakeR : List E.TRow := (E.tableOf awakeS).1
def okD (r : Except (Int × Int) Tb) : Bool := match r with
 | .ok _ => true
 | .error _ => false
def tabD (r : Except (Int × Int) Tb) : Tb := match r with
 | .ok T => T
 | .error _ => Tb.nil
theorem okD_eq {r : Except (Int × Int) Tb} (h : okD r = true) : r = .ok (tabD r) := by
 cases r with
 | ok T => rfl
 | error v => cases h
def awakeT : Tb := tabD (Tb.nil.rows (convR awakeR))
theorem awake_rows : (E.tableOf awakeS).2 = (0, 0) := by decide +kernel
theorem awake_ok : okD (Tb.nil.rows (convR awakeR)) = true := by decide +kernel
theorem awake_len : awakeR.length = 2 := by decide +kernel
theorem awake_sz : (convR awakeR).all (fun r => r.2.all fun u => decide (u.size ≤ 2000000)) = true := by decide +kernel
theorem sz_all {rs : List (Int × List ByteArray)} (h : rs.all (fun r => r.2.all fun u => decide (u.size ≤ 2000000)) = true) : ∀ r ∈ rs, ∀ u ∈ r.2, u.size ≤ 2000000 := fun r hr u hu =>
 of_decide_eq_true (List.all_eq_true.1 (List.all_eq_true.1 h r hr) u hu)
theorem pair_eq {r : List E.TRow × Nat × Nat} (h : r.2 = (0, 0)) : r = (r.1, 0, 0) := by
 obtain ⟨a, b⟩ := r
 cases h
 rfl
theorem awake_load {W : World} (tb : Tabs W) : Calls Tryz.prog 9 #[.string awakeS] W (LoC W awakeT) := cload_h (pair_eq awake_rows) (okD_eq awake_ok) (sz_all awake_sz) (by show awakeR.length ≤ 900000; rw [awake_len]; omega) tb
theorem metric_h (W : World) : Calls Tryz.prog 10 #[] W (fun e w' => e = .returned (.string metricS) ∧ Bel W w') := by
 go_enter Tryz.func10, Tryz.ntmps10
 go_wp2
 go_ret
 exact ⟨by first | rfl | (unfold metricS; decide +kernel) | kernel_rfl, Bel.refl W⟩
theorem ydrew_moreT {w W : World} {q k : Nat} (h : Hid (W = w.drewN q)) : ∃ q2, W.drewN k = w.drewN q2 := by
 rw [h.out]; exact ⟨q + k, by simp [World.drewN, Nat.add_assoc]⟩
theorem take_eqT {xs ys : List ByteArray} {k : Nat} (h : k < xs.length) (h' : k < ys.length) (ht : xs.take k = ys.take k) (he : xs[k] = ys[k]) : xs.take (k + 1) = ys.take (k + 1) := by
 rw [List.take_succ_eq_append_getElem h, List.take_succ_eq_append_getElem h', ht, he]
def TextsQT (W : World) (b : Bool) (e : Ending) (w' : World) : Prop := e = .returned (.bool b) ∧ ∃ n, w' = W.drewN n
theorem texts11_q {A A' : Option Addr} {n n' c c' : Nat} {xs ys : List ByteArray} {w : World} (h : Ss w A xs) (h' : Ss w A' ys) (hn : n = xs.length) (hn' : n' = ys.length) (hl : n ≤ 1000000) (hl' : n' ≤ 1000000) :
 Calls Tryz.prog 20 #[.slice A n c, .slice A' n' c'] w (TextsQT w (decide (xs = ys))) := by
 by_cases hnn : n = n'
 ·subst hnn
  have HN := khide hn
  have HN' := khide hn'
  clear hn hn'
  go_enter Tryz.func20, Tryz.ntmps20
  go_wp2
  go_loopw [5] (fun iv wr => ∃ k q : Nat, k ≤ n ∧ iv = .int .i64 (k : Int) ∧ Hid (wr = w.drewN q) ∧ Hid (xs.take k = ys.take k)) (fun iv _ => n - (intOf iv).toNat)
  case atStart => exact ⟨0, 0, Nat.zero_le _, rfl, rfl, rfl⟩
  case round =>
   obtain ⟨k, q, hk, rfl, HQ, ht⟩ := hrel
   by_cases hlt : k < n
   ·have hx : k < xs.length := by rw [← HN.out]; exact hlt
    have hy : k < ys.length := by rw [← HN'.out]; exact hlt
    obtain ⟨ad, rfl, hb, hcell⟩ := h.out.at_ hx
    obtain ⟨ad', rfl, hb', hcell'⟩ := h'.out.at_ hy
    obtain ⟨x, hxe⟩ : ∃ x, x = xs[k] := ⟨_, rfl⟩
    obtain ⟨y, hye⟩ : ∃ y, y = ys[k] := ⟨_, rfl⟩
    rw [← hxe] at hcell
    rw [← hye] at hcell'
    have HT : Hid (x = y → xs.take (k + 1) = ys.take (k + 1)) := fun e => take_eqT hx hy ht.out (by rw [← hxe, ← hye, e])
    have HD : Hid (x ≠ y → decide (xs = ys) = false) := fun e => decide_eq_false (fun e2 => by subst e2; exact e (by rw [hxe, hye]))
    replace hcell : wr.cell? (ad.add k) = some (.string x) := by rw [HQ.out]; exact hcell
    replace hcell' : wr.cell? (ad'.add k) = some (.string y) := by rw [HQ.out]; exact hcell'
    clear hxe hye hx hy
    by_cases he : x = y
    ·subst he
     go_wp2_with fail
     go_quiet (fail)
     go_wp2
     go_roundw
     case rel =>
      obtain ⟨q2, hq2⟩ := ydrew_moreT HQ
      exact ⟨k + 1, q2, by omega, by go_num, hq2, HT.out (by first | rfl | trivial)⟩
     case measure => simp [intOf]; omega
    ·have e2 : (x.toList == y.toList) = false := by
      rw [beq_eq_false_iff_ne]; intro e3; rw [Lib.toList_data, Lib.toList_data] at e3
      exact he (ByteArray.ext (Array.ext' e3))
     have HE := khide he
     clear he
     go_wp2_with fail
     go_quiet (fail)
     go_wp2
     go_ret
     exact ⟨ybool (HD.out HE.out).symm, ydrew_moreT HQ⟩
   ·obtain rfl : k = n := by omega
    go_wp2
    go_ret
    refine ⟨ybool (Eq.symm (decide_eq_true ?_)), q, HQ.out⟩
    have h3 := ht.out
    rwa [List.take_of_length_le (by rw [← HN.out]; exact Nat.le_refl _), List.take_of_length_le (by rw [← HN'.out]; exact Nat.le_refl _)] at h3
 ·have d1 : ((n : Int) == (n' : Int)) = false := by rw [beq_eq_false_iff_ne]; omega
  have HD : Hid (decide (xs = ys) = false) := decide_eq_false (fun e => hnn (by rw [hn, hn', e]))
  clear hnn hn hn'
  go_enter Tryz.func20, Tryz.ntmps20
  go_wp2
  go_ret
  exact ⟨ybool HD.out.symm, 0, rfl⟩
section
variable {base p : Nat} {W : World} {x : TPl} {T : Tb} {s : ByteArray}
theorem tquantity_h (h : TabM base W p x T) {a : V8} {k : Nat} (hn : T.qn.length ≤ 1000000) (ha : a.wf) (hk : T.qv[k]? = some a) (hs : T.qn[k]? = some s) :
 Calls Tryz.prog 13 #[.pointer (some ⟨p, 0, none⟩), a.v] W (fun e w' => e = .returned (.tuple #[.string s, .bool true]) ∧ Bel W w') := by
 obtain ⟨A, c, e1⟩ := h.qs.form
 have hq := h.qs
 rw [e1] at hq
 have CG : Hid (∀ W', Bel W W' → Calls Tryz.prog 35 #[.pointer (some ⟨x.p2, 0, none⟩), a.v] W' (RetSB W' s true)) := fun W' hb => get_yes (hq.up hb.hid).nms hn ha hk hs
 obtain ⟨W1, hW1⟩ : ∃ X, X = W.alloc (.cells a.c.toArray 36) := ⟨_, rfl⟩
 have HA : At W1 W.heap.size a.c := by rw [hW1]; exact at_new0 W a.c _
 have HB : Bel W W1 := by rw [hW1]; exact (Bel.refl W).al _
 have HM := khide (h.up HB.hid)
 have HW := khide hW1
 obtain ⟨qa, hqa⟩ : ∃ z, z = W.heap.size := ⟨_, rfl⟩
 rw [← hqa] at HA
 clear h hq hn ha hk hs hW1
 go_enter Tryz.func13, Tryz.ntmps13
 go_upto_region 1 with fail
 rw [show (#[Value.int .i64 a.x0, .int .i64 a.x1, .int .i64 a.x2, .int .i64 a.x3, .int .i64 a.x4, .int .i64 a.x5, .int .i64 a.x6, .int .i64 a.x7] : Array Value) = a.c.toArray from rfl, ← HW.out, show Value.pointer (some ⟨W.heap.size, 0, none⟩) = Value.pointer (some ⟨qa, 0, none⟩) by rw [hqa]]
 clear hqa HW
 have HS : Hid (∀ w' : World, Bel W1 w' → w'.cell? ⟨p, 5, none⟩ = some (.pointer (some ⟨x.p2, 0, none⟩)) ∧ w'.cell? ⟨qa, 0, none⟩ = some (.int .i64 a.x0) ∧ w'.cell? ⟨qa, 1, none⟩ = some (.int .i64 a.x1) ∧ w'.cell? ⟨qa, 2, none⟩ = some (.int .i64 a.x2) ∧ w'.cell? ⟨qa, 3, none⟩ = some (.int .i64 a.x3) ∧ w'.cell? ⟨qa, 4, none⟩ = some (.int .i64 a.x4) ∧ w'.cell? ⟨qa, 5, none⟩ = some (.int .i64 a.x5) ∧ w'.cell? ⟨qa, 6, none⟩ = some (.int .i64 a.x6) ∧ w'.cell? ⟨qa, 7, none⟩ = some (.int .i64 a.x7)) := fun w' hw => ⟨(hw.cell HM.out.lt).trans HM.out.c5, (hw.cell HA.lt).trans HA.c0, (hw.cell HA.lt).trans HA.c1, (hw.cell HA.lt).trans HA.c2, (hw.cell HA.lt).trans (at_nth HA 3 rfl), (hw.cell HA.lt).trans (at_nth HA 4 rfl), (hw.cell HA.lt).trans (at_nth HA 5 rfl), (hw.cell HA.lt).trans (at_nth HA 6 rfl), (hw.cell HA.lt).trans (at_nth HA 7 rfl)⟩
 have HBX : Bel W1 W1 := Bel.refl _
 have hl1 := HA.lt; have hl2 := HM.out.lt
 refine wp_region_held_drew (S := fun w' => w'.cell? ⟨p, 5, none⟩ = some (.pointer (some ⟨x.p2, 0, none⟩)) ∧ w'.cell? ⟨qa, 0, none⟩ = some (.int .i64 a.x0) ∧ w'.cell? ⟨qa, 1, none⟩ = some (.int .i64 a.x1) ∧ w'.cell? ⟨qa, 2, none⟩ = some (.int .i64 a.x2) ∧ w'.cell? ⟨qa, 3, none⟩ = some (.int .i64 a.x3) ∧ w'.cell? ⟨qa, 4, none⟩ = some (.int .i64 a.x4) ∧ w'.cell? ⟨qa, 5, none⟩ = some (.int .i64 a.x5) ∧ w'.cell? ⟨qa, 6, none⟩ = some (.int .i64 a.x6) ∧ w'.cell? ⟨qa, 7, none⟩ = some (.int .i64 a.x7)) (by kernel_rfl) ?_ (fun hHeld => ?_)
 ·exact HS.out _ (Bel.refl _).dr
 refine tq 0 ?_
 refine tq 1 ?_
 refine tq 2 ?_
 refine tq 3 ?_
 refine tq 4 ?_
 (refine sk 5 (fun K hK => ?_); go_simp; (go_at_call 35; refine (CG.out _ HB.dr).mono ?_; rintro e wc ⟨rfl, hbk⟩; replace HBX : Bel W1 wc := (Bel.refl W1).dr.up hbk); (try (go_wp2_with fail)); refine hK.out _ _ ?_ (fun hHeld => ?_); (focus ((try dsimp only); exact HS.out _ HBX)); clear hK K; (try simp only [lay7, Act.put]))
 refine tq 6 ?_
 refine tq 7 ?_
 refine tq 8 ?_
 refine tq 9 ?_
 refine wpAnyH_done (by decide +kernel) ?_ _
 go_wp2_with fail
 refine bodyPost_ret (v := .tuple #[.string s, .bool true]) (by simp [results, Tryz.results13, go_sem]) rfl ⟨rfl, HB.up HBX.hid⟩
theorem tprefix_h (h : TabM base W p x T) {r : Rat} (hs : s.size ≤ 2000000) (hl : lookL T.vals s = some r) :
 Calls Tryz.prog 15 #[.pointer (some ⟨p, 0, none⟩), .string s] W (fun e w' => ∃ b A n c A' n' c', e = .returned (.tuple #[.agg #[.bool b, .slice A n c, .slice A' n' c'], .bool true]) ∧ QA w' b A n c A' n' c' r 4 ∧ Bel W w') := by
 obtain ⟨b, A, n, c, A', n', c', k1, k2, _⟩ := h.lookV hs
 rw [hl] at k1
 have hq := k2 r hl
 have CF : Hid (∀ W', Bel W W' → Calls Tryz.prog 36 #[.agg #[.bool b, .slice A n c, .slice A' n' c']] W' (FrR W' b n n' r 4)) := fun W' hb => tfresh_h (hq.up hb.hid)
 have HM := khide h
 obtain ⟨W1, hW1⟩ : ∃ X, X = W.alloc (.cells #[.bool false, .slice none 0 0, .slice none 0 0] 51) := ⟨_, rfl⟩
 have HX : At W1 W.heap.size [.bool false, .slice none 0 0, .slice none 0 0] := by rw [hW1]; exact at_new0 _ _ _
 have HB : Bel W W1 := by rw [hW1]; exact (Bel.refl W).al _
 have HW := khide hW1
 have HM1 := khide (h.up HB.hid)
 have K1 := khide k1
 obtain ⟨qx, hqx⟩ : ∃ z, z = W.heap.size := ⟨_, rfl⟩
 rw [← hqx] at HX
 have HQX : Hid (W.heap.size ≤ qx) := by unfold Hid; omega
 clear hl k1 k2 h hs hW1 hq
 go_enter Tryz.func15, Tryz.ntmps15
 go_upto_region 1 with fail
 rw [← HW.out, show Value.pointer (some ⟨W.heap.size, 0, none⟩) = Value.pointer (some ⟨qx, 0, none⟩) by rw [hqx]]
 clear hqx HW
 have q3 := HM1.out.c3; have qp := HM1.out.lt
 have k1 := K1.out W1 (Turn.of HB.hid)
 go_upto_region 2 with fail
 refine kwp_named ?_
 intro W2 hW2
 have HF : At W2 W1.heap.size [.bool b, .slice A n c, .slice A' n' c'] := by rw [hW2]; exact at_new0 _ _ _
 have HXL : Hid (qx < W1.heap.size) := HX.lt
 replace HX : At W2 qx [.bool false, .slice none 0 0, .slice none 0 0] := by rw [hW2]; exact HX.al _
 replace HB : Bel W W2 := by rw [hW2]; exact HB.al _
 obtain ⟨qf, hqf⟩ : ∃ z, z = W1.heap.size := ⟨_, rfl⟩
 rw [← hqf] at HF HXL ⊢
 clear hW2 hqf q3 qp k1 HM1 K1 HM
 have f0 := HF.c0; have f1 := HF.c1; have f2 := HF.c2; have fl := HF.lt
 have x0 := HX.c0; have x1 := HX.c1; have x2 := HX.c2; have xf0 := HX.f0; have xf1 := HX.f1; have xf2 := HX.f2; have xl := HX.lt
 go_wp2_with (first | (go_at_call 36; (with_reducible refine (CF.out _ HB).mono ?_); rintro e w5 ⟨F1, f1', F2, f2', rfl, hf, hbk⟩; replace HX := HX.up (Bel.hid hbk); replace HB := HB.up (Bel.hid hbk); clear f0 f1 f2 fl x0 x1 x2 xf0 xf1 xf2 xl; have x0 := HX.c0; have x1 := HX.c1; have x2 := HX.c2; have xf0 := HX.f0; have xf1 := HX.f1; have xf2 := HX.f2; have xl := HX.lt) | fail)
 refine bodyPost_ret (v := .tuple #[.agg #[.bool b, .slice F1 n f1', .slice F2 n' f2'], .bool true]) (by simp [results, Tryz.results15, go_sem, x0, x1, x2, xl]) rfl ?_
 obtain ⟨z, dd, hz, hd, hr⟩ := hf
 exact ⟨b, F1, n, f1', F2, n', f2', rfl, ⟨z, dd, hz.put3 HX, hd.put3 HX now3, hr⟩, ((HB.put HQX.out _).put HQX.out _).put HQX.out _⟩
def refT (s : ByteArray) (line e : Int) : Bool := decide ((E.tableOf s).2 = (0, 0)) && (match Tb.nil.rows (convR (E.tableOf s).1) with
  | .error z => decide (z = (line, e))
  | .ok _ => false) && (convR (E.tableOf s).1).all (fun r => r.2.all fun u => decide (u.size ≤ 2000000)) && decide ((E.tableOf s).1.length ≤ 900000)
theorem refT_eq {l e : Int} (h : refT s l e = true) : E.tableOf s = ((E.tableOf s).1, 0, 0) ∧ Tb.nil.rows (convR (E.tableOf s).1) = .error (l, e) ∧ (∀ r ∈ convR (E.tableOf s).1, ∀ u ∈ r.2, u.size ≤ 2000000) ∧ (E.tableOf s).1.length ≤ 900000 := by
 unfold refT at h
 simp only [Bool.and_eq_true, decide_eq_true_eq] at h
 obtain ⟨⟨⟨h1, h2⟩, h3⟩, h4⟩ := h
 refine ⟨pair_eq h1, ?_, sz_all h3, h4⟩
 split at h2
 ·rename_i z hz
  have h5 := of_decide_eq_true h2
  rw [hz, h5]
 ·cases h2
theorem refused_h {l e : Int} (h : refT s l e = true) (tb : Tabs W) : Calls Tryz.prog 8 #[.string s, .int .i64 l, .int .i64 e] W (RetB W true) := by
 obtain ⟨h1, h2, h3, h4⟩ := refT_eq h
 obtain ⟨rs, hrs⟩ : ∃ r, (E.tableOf s).1 = r := ⟨_, rfl⟩
 rw [hrs] at h1 h2 h3 h4
 obtain ⟨n, hnn⟩ : ∃ k, rs.length = k := ⟨_, rfl⟩
 have CP : Hid (∀ W', Calls Tryz.prog 27 #[.string s] W' (fun e w' => ∃ A c, e = .returned (.tuple #[.slice A n c, .int .i64 0, .int .i64 0]) ∧ LW w' w'.heap.size A (convR rs) ∧ Bel W' w')) := fun W' => (E.parse_any h1 W').mono (by
  rintro e w' ⟨A, c, h1, _, h2, h3⟩
  rw [hnn] at h1
  exact ⟨A, c, h1, rw_lw h2.out, h3⟩)
 have CL : Hid (∀ W' A c, LW W' W'.heap.size A (convR rs) → Bel W W' → Calls Tryz.prog 25 #[.slice A n c] W' (fun e' w' => e' = .returned (.tuple #[.pointer none, .int .i64 l, .int .i64 e]) ∧ Bel W' w')) := fun W' A c h1 hb => by
  have h5 := tload_h (c := c) h1 (n := n) (by rw [← hnn]; simp [convR]) (by omega) h3 (tb.up hb.hid)
  rw [h2] at h5
  exact h5
 have CO : Hid (Calls Tryz.prog 9 #[.string s] W (fun e' w' => e' = .returned (.tuple #[.pointer none, .int .i64 l, .int .i64 e]) ∧ Bel W w')) := by
  clear h h1 h2 h3 h4 tb hnn hrs
  unfold Hid
  go_enter Tryz.func9, Tryz.ntmps9
  go_wp2_with (first
   | (go_at_call 27; (with_reducible refine (CP.out _).mono ?_); rintro e w1 ⟨A, c, rfl, hlw, hb1⟩)
   | (go_at_call 25; (with_reducible refine (CL.out _ _ _ hlw hb1).mono ?_); rintro e w2 ⟨rfl, hb2⟩)
   | fail)
  refine bodyPost_ret (v := .tuple #[.pointer none, .int .i64 l, .int .i64 e]) (by simp [results, Tryz.results9, go_sem]) rfl ⟨rfl, hb1.up hb2.hid⟩
 have v1 : (l == l) = true := by simp
 have v2 : (e == e) = true := by simp
 clear h h1 h2 h3 h4 tb hnn hrs CP CL
 go_enter Tryz.func8, Tryz.ntmps8
 go_wp2_with (first | (go_at_call 9; (with_reducible refine (CO.out).mono ?_); rintro e' w1 ⟨rfl, hb1⟩) | fail)
 go_ret
 exact ⟨rfl, hb1⟩
end
end Go.Proofs.YtfflmmbhpchloaaGreatDoor
end
section
open Go.RowKit
namespace Go.Proofs.YtfflmmbhpchloaaGreatDoor.V
def RetSs (W : World) (n : Nat) (xs : List ByteArray) (e : Ending) (w' : World) : Prop := ∃ A c, e = .returned (.slice A n c) ∧ Ss w' A xs ∧ Hid (Below W.heap.size W w')
theorem own_ss {w : World} {base n c : Nat} {A : Option Addr} {xs : List ByteArray} (h : w.ownsRow base 9 1 (.slice A n c) n (xs.map Value.string)) : n = xs.length ∧ Ss w A xs := by
 have h1 := h.1
 rw [List.length_map] at h1
 have h2 : n = xs.length := by omega
 subst h2
 exact ⟨rfl, RS.of_own h⟩
theorem vclone_ss {W : World} {A : Option Addr} {n c : Nat} {xs : List ByteArray} (h : Ss W A xs) (hn : n + 1 = xs.length) (hN : n + 1 ≤ 1000000) :
 Calls Tryz.prog 44 #[.slice A (n + 1) c] W (RetSs W (n + 1) xs) := by
 obtain ⟨ad, rfl, hb, hc⟩ := h.out (by omega)
 have q : ∀ (w : World) (a : Option Addr) (n c n' c' : Nat), (binOp .eql 60 (.slice a n c) (.slice none n' c')).run Tryz.prog w = .ok (.bool a.isNone) w := fun w a n c n' c' => Lib.run_eql_slice_nil w _ _ a n c n' c' Tryz.underlying60
 obtain ⟨i0, hi, hz0, hz1, hz2⟩ := info_parts vinfoStr
 have HC := vhide hc
 have HNN := vhide hn
 have HB := vhide hb
 have J0 := vhide hi; have Y0 := vhide hz0; have Y1 := vhide hz1; have Y2 := vhide hz2
 clear hc hn hb hi hz0 hz1 hz2 h
 go_enter Tryz.func44, Tryz.ntmps44
 go_wp2_with (at_builtin; refine wpList_append_own _ rfl _ _ 60 rfl W.heap.size 9 i0 (.string ByteArray.empty) 1 16 Tryz.underlying60 J0.out Y0.out Y1.out Y2.out rfl (by decide) _ _ _ rfl (World.ownsRow_made W #[] 0 (Nat.le_refl _) (Nat.zero_le _) rfl) ad (n + 1) c (xs.map Value.string) rfl ?qc1 ?qc2 ?qc3 ?qc4 ?qc5 ?qc6 ?_)
 case qc1 => rw [List.length_map, ← HNN.out]; omega
 case qc2 =>
  intro j u hj
  rw [List.getElem?_map] at hj
  obtain ⟨x, hx, rfl⟩ := Option.map_eq_some_iff.1 hj
  have h1 : (ad.add j).block < W.heap.size := by rw [yblock_add]; exact HB.out
  rw [World.cell?_alloc_lt W _ _ h1]
  exact HC.out j x hx
 case qc3 => intro u hu; obtain ⟨x, _, rfl⟩ := List.mem_map.1 hu; rfl
 case qc4 => unfold maxLen; omega
 case qc5 => omega
 case qc6 => simp
 intro v' w1 hown hgrow hnil
 have hown2 : w1.ownsRow W.heap.size 9 1 v' (n + 1) (xs.map Value.string) := by simpa using hown
 obtain ⟨g, cap, rfl⟩ := vown_form hown2
 go_wp2
 go_ret
 refine ⟨some ⟨g, 0, none⟩, cap, rfl, (own_ss hown2).2, ?_⟩
 exact ((Below.refl _ W).alloc (Nat.le_refl _) _).grown hgrow (by simp) (by intro k hk; simp [Value.ownBlock] at hk; omega)
end Go.Proofs.YtfflmmbhpchloaaGreatDoor.V
end
