/- Each theorem here says its own conditions. -/
import Derived.Test.YtfflmmbhpchloaaGreatDoorTdf
set_option maxRecDepth 100000
set_option maxHeartbeats 16000000
section
open Go.RowKit
open Go.Proofs.YtfflmmbhpchloaaGreatDoor.V
namespace Go.Proofs.YtfflmmbhpchloaaGreatDoor
def QaR (W:World) (r:Rat) (K:Nat) (e:Ending) (w':World):Prop:=∃ b A n c A' n' c',e = .returned (.agg #[.bool b,.slice A n c,.slice A' n' c'])∧QA w' b A n c A' n' c' r K∧Bel W w'
theorem qint_h {k:Int} {r:Rat} {K:Nat} (h1:-9223372036854775808≤k) (h2:k≤9223372036854775807) (hr:(k:Rat)=r) (hb:Bd r K) (W:World):Calls Tryz.prog 123 #[.int .i64 k] W (QaR W r K):=by
 refine (int_h h1 h2).mono ?_
 rw [hr]
 rintro e w' ⟨A,c,A',c',h3,h4,h5,h6⟩
 exact ⟨_,_,_,_,_,_,_,h3,qa_of h4 h5 hb,h6⟩
section
variable {base p g y N:Nat} {W W':World} {x:TPl} {T:Tb} {s qn:ByteArray}
theorem cell_same {V V':World} {b:Nat} (h:V'.heap[b]? = V.heap[b]?) (i:Nat):V'.cell? ⟨b,i,none⟩=V.cell? ⟨b,i,none⟩:=by unfold World.cell?;rw [h]
theorem At.same {V V':World} {b:Nat} {vs:List Value} (h:At V b vs) (hs:V.heap.size≤V'.heap.size) (e:V'.heap[b]? = V.heap[b]?):At V' b vs :=
 ⟨Nat.lt_of_lt_of_le h.lt hs,fun i v hv=>⟨(cell_same e i).trans (h.all i v hv).1,by have:=(h.all i v hv).2;unfold World.frozen? at this ⊢;rw [e];exact this⟩⟩
theorem taddBase_h (h:LdM base W g p y x T) (ok:OkT N T) (hN:N≤900000) (hbase:base≤W.heap.size) (hs:s.size≤2000000) :
 Calls Tryz.prog 85 #[.pointer (some ⟨g,0,none⟩),.string s,.string qn] W (StR base W g p y x (T.addBase s qn)):=by
 obtain ⟨f,hf⟩:∃ f,T.fresh s=f:=⟨_,rfl⟩
 obtain ⟨qb,hqb⟩:∃ b,quanB qn=b:=⟨_,rfl⟩
 obtain ⟨k,hk⟩:∃ k,T.bases=k:=⟨_,rfl⟩
 have CF:Hid (∀ W',Bel W W'→Calls Tryz.prog 118 #[.pointer (some ⟨g,0,none⟩),.string s] W' (IntB W' f)):=fun W' hb=>hf ▸ tcheck_h (h.up hb.hid) hs
 have CQ:Hid (∀ W',Calls Tryz.prog 119 #[.string qn] W' (RetB W' qb)):=fun W'=>tquan_h hqb W'
 have HL:=khide h
 have HB:=Bel.refl W
 have hfc:=fresh_codes (T:=T) (s:=s)
 have HFN:Hid (T.fresh s=0→lookL T.ents s=none):=fun h0=>(fresh_none h0).1
 have hk8:k≤8:=hk ▸ ok.b8
 unfold Tb.addBase
 rw [hf] at hfc HFN
 rw [hf,hqb,hk]
 have HK:=khide hk
 have HQB:=khide hqb
 have HS0:=khide hs
 have HBS:=khide hbase
 have HLE:Hid (T.ents.length≤900000):=Nat.le_trans ok.l1 hN
 have HL4:Hid (T.qn.length≤900000):=Nat.le_trans ok.l4 hN
 clear hf h ok hN hbase hs hqb hk
 rcases hfc with rfl | rfl | rfl
 rotate_left
 iterate 2
  ·rw [if_pos (by decide)]
   clear HFN
   go_enter Tryz.func85,Tryz.ntmps85
   go_wp2_with (first | (go_at_call 118;(with_reducible refine (CF.out _ HB).mono ?_);rintro e w1 ⟨rfl,hb1⟩) | fail)
   go_ret
   exact ⟨rfl,hb1⟩
 rw [if_neg (by decide)]
 have HN:Hid (lookL T.ents s=none):=HFN.out rfl
 clear HFN
 cases qb
 ·rw [if_pos rfl]
  go_enter Tryz.func85,Tryz.ntmps85
  go_wp2_with (first | (go_at_call 118;(with_reducible refine (CF.out _ HB).mono ?_);rintro e w1 ⟨rfl,hb1⟩) | (go_at_call 119;(with_reducible refine (CQ.out _).mono ?_);rintro e w2 ⟨rfl,hb2⟩) | fail)
  go_ret
  exact ⟨rfl,hb1.up hb2.hid⟩
 rw [if_neg (by decide)]
 by_cases h8:k=8
 ·rw [if_pos h8]
  subst h8
  go_enter Tryz.func85,Tryz.ntmps85
  go_upto_region 6 with (first | (go_at_call 118;(with_reducible refine (CF.out _ HB).mono ?_);rintro e w1 ⟨rfl,hb1⟩) | (go_at_call 119;(with_reducible refine (CQ.out _).mono ?_);rintro e w2 ⟨rfl,hb2⟩) | fail)
  have HB2:=hb1.up hb2.hid
  have HM:=khide (HL.out.up HB2.hid)
  have g1:=HM.out.c1;have gl:=HM.out.lt
  rw [HK.out] at g1
  go_wp2_with fail
  go_ret
  exact ⟨rfl,HB2⟩
 rw [if_neg h8]
 obtain ⟨u,hu⟩:∃ u,unitV k=u:=⟨_,rfl⟩
 have hk7:k < 8:=by omega
 have hwf:=(unitV_ok hk7).2
 rw [hu] at hwf
 obtain ⟨t,ht⟩:∃ t,decide (u ∈ T.qv)=t:=⟨_,rfl⟩
 have CD:Hid (∀ W',Calls Tryz.prog 120 #[.int .i64 (k:Int)] W' (RetVV W' u true)):=fun W'=>hu ▸ dbase_h hk7 W'
 have CP:Hid (∀ W',Bel W W'→Calls Tryz.prog 121 #[.pointer (some ⟨x.p2,0,none⟩),.agg #[.int .i64 u.x0,.int .i64 u.x1,.int .i64 u.x2,.int .i64 u.x3,.int .i64 u.x4,.int .i64 u.x5,.int .i64 u.x6,.int .i64 u.x7],.string qn] W' (QpR base W' g p y x T u qn t)):=fun W' hb=>tqput_h (HL.out.up hb.hid) (Nat.le_trans HBS.out hb.hid.out.size) HL4.out hwf (quan_more HQB.out) ht
 have ek8:((k:Int) == 8)=false:=by rw [beq_eq_false_iff_ne];omega
 have HU:=khide hu
 have HT:=khide ht
 have HK7:=khide hk7
 rw [hu]
 have e9:∀ {z:Except Int Tb},(if u ∈ T.qv then (.error 10:Except Int Tb) else z)=if t=true then .error 10 else z:=fun {z}=>by
  subst ht
  by_cases hm:u ∈ T.qv
  ·rw [if_pos hm,if_pos (decide_eq_true hm)]
  ·rw [if_neg hm,if_neg (by rw [decide_eq_false hm];decide)]
 rw [e9]
 clear hu ht hk7 hwf e9 h8 hk8
 cases t
 rotate_left
 ·rw [if_pos rfl]
  replace CP:Hid (∀ W',Bel W W'→Calls Tryz.prog 121 #[.pointer (some ⟨x.p2,0,none⟩),.agg #[.int .i64 u.x0,.int .i64 u.x1,.int .i64 u.x2,.int .i64 u.x3,.int .i64 u.x4,.int .i64 u.x5,.int .i64 u.x6,.int .i64 u.x7],.string qn] W' (fun e w'=>e = .returned (.bool false)∧Bel W' w')):=CP
  go_enter Tryz.func85,Tryz.ntmps85
  go_upto_region 6 with (first | (go_at_call 118;(with_reducible refine (CF.out _ HB).mono ?_);rintro e w1 ⟨rfl,hb1⟩) | (go_at_call 119;(with_reducible refine (CQ.out _).mono ?_);rintro e w2 ⟨rfl,hb2⟩) | fail)
  replace HB:=hb1.up hb2.hid
  have HM:=khide (HL.out.up HB.hid)
  have g1:=HM.out.c1;have gl:=HM.out.lt
  rw [HK.out] at g1
  clear hb1 hb2
  go_upto_region 8 with fail
  go_upto_region 9 with (first | (go_at_call 120;(with_reducible refine (CD.out _).mono ?_);rintro e w3 ⟨rfl,hb3⟩) | fail)
  refine kwp_named ?_
  intro w4 hw4
  have HB4:Bel W w4:=by rw [hw4];exact (HB.up hb3).al _
  have HV:At w4 w3.heap.size [.int .i64 u.x0,.int .i64 u.x1,.int .i64 u.x2,.int .i64 u.x3,.int .i64 u.x4,.int .i64 u.x5,.int .i64 u.x6,.int .i64 u.x7]:=by rw [hw4];exact at_new0 _ _ _
  have HQ:Hid (W.heap.size≤w3.heap.size):=Below.size (HB.up hb3)
  obtain ⟨qv,hqv⟩:∃ z,z=w3.heap.size:=⟨_,rfl⟩
  rw [← hqv] at HV HQ ⊢
  clear hw4 hqv g1 gl HM hb3
  have HM:=khide (HL.out.up HB4.hid)
  have HS:Hid (∀ w':World,Bel w4 w'→w'.cell? ⟨g,0,none⟩=some (.pointer (some ⟨p,0,none⟩))∧w'.cell? ⟨p,5,none⟩=some (.pointer (some ⟨x.p2,0,none⟩))∧w'.cell? ⟨qv,0,none⟩=some (.int .i64 u.x0)∧w'.cell? ⟨qv,1,none⟩=some (.int .i64 u.x1)∧w'.cell? ⟨qv,2,none⟩=some (.int .i64 u.x2)∧w'.cell? ⟨qv,3,none⟩=some (.int .i64 u.x3)∧w'.cell? ⟨qv,4,none⟩=some (.int .i64 u.x4)∧w'.cell? ⟨qv,5,none⟩=some (.int .i64 u.x5)∧w'.cell? ⟨qv,6,none⟩=some (.int .i64 u.x6)∧w'.cell? ⟨qv,7,none⟩=some (.int .i64 u.x7)):=fun w' hw =>
   ⟨(hw.cell HM.out.lt).trans HM.out.c0,(hw.cell HM.out.tab.lt).trans HM.out.tab.c5,(hw.cell HV.lt).trans HV.c0,(hw.cell HV.lt).trans HV.c1,(hw.cell HV.lt).trans HV.c2,(hw.cell HV.lt).trans (at_nth HV 3 rfl),(hw.cell HV.lt).trans (at_nth HV 4 rfl),(hw.cell HV.lt).trans (at_nth HV 5 rfl),(hw.cell HV.lt).trans (at_nth HV 6 rfl),(hw.cell HV.lt).trans (at_nth HV 7 rfl)⟩
  have HBX:Bel w4 w4:=Bel.refl _
  have hL1:=HM.out.lt;have hL2:=HM.out.tab.lt;have hL3:=HV.lt
  refine wp_region_held_drew (S:=fun w'=>w'.cell? ⟨g,0,none⟩=some (.pointer (some ⟨p,0,none⟩))∧w'.cell? ⟨p,5,none⟩=some (.pointer (some ⟨x.p2,0,none⟩))∧w'.cell? ⟨qv,0,none⟩=some (.int .i64 u.x0)∧w'.cell? ⟨qv,1,none⟩=some (.int .i64 u.x1)∧w'.cell? ⟨qv,2,none⟩=some (.int .i64 u.x2)∧w'.cell? ⟨qv,3,none⟩=some (.int .i64 u.x3)∧w'.cell? ⟨qv,4,none⟩=some (.int .i64 u.x4)∧w'.cell? ⟨qv,5,none⟩=some (.int .i64 u.x5)∧w'.cell? ⟨qv,6,none⟩=some (.int .i64 u.x6)∧w'.cell? ⟨qv,7,none⟩=some (.int .i64 u.x7)) (by kernel_rfl) ?_ (fun hHeld=>?_)
  ·exact HS.out _ (Bel.refl _).dr
  refine tq 0 ?_
  refine tq 1 ?_
  refine tq 2 ?_
  refine tq 3 ?_
  refine tq 4 ?_
  refine tq 5 ?_
  refine tq 6 ?_
  refine tq 7 ?_
  refine tq 8 ?_
  (refine sk 9 (fun K hK=>?_);go_simp;(first | (go_at_call 121;refine (CP.out _ HB4.dr).mono ?_;rintro e w5 ⟨rfl,hb5⟩;replace HBX:Bel w4 w5:=(Bel.refl _).dr.up (Bel.hid hb5)) | fail);(try (go_wp2_with fail));refine hK.out _ _ ?_ (fun hHeld=>?_);(focus ((try dsimp only);exact HS.out _ HBX));clear hK K;(try simp only [lay7,Act.put]))
  refine tq 10 ?_
  refine wpAnyH_done (by decide +kernel) ?_ _
  go_wp2_with fail
  go_ret
  exact ⟨rfl,HB4.up (Bel.hid HBX)⟩
 rw [if_neg (by decide)]
 replace CP:Hid (∀ W',Bel W W'→Calls Tryz.prog 121 #[.pointer (some ⟨x.p2,0,none⟩),.agg #[.int .i64 u.x0,.int .i64 u.x1,.int .i64 u.x2,.int .i64 u.x3,.int .i64 u.x4,.int .i64 u.x5,.int .i64 u.x6,.int .i64 u.x7],.string qn] W' (fun e w'=>e = .returned (.bool true)∧Stp base W' g p y x { T with qv:=T.qv ++ [u],qn:=T.qn ++ [qn] } w'∧w'.heap[g]? = W'.heap[g]? ∧ w'.heap[p]? = W'.heap[p]?)):=CP
 go_enter Tryz.func85,Tryz.ntmps85
 go_upto_region 6 with (first | (go_at_call 118;(with_reducible refine (CF.out _ HB).mono ?_);rintro e w1 ⟨rfl,hb1⟩) | (go_at_call 119;(with_reducible refine (CQ.out _).mono ?_);rintro e w2 ⟨rfl,hb2⟩) | fail)
 replace HB:=hb1.up hb2.hid
 have HM:=khide (HL.out.up HB.hid)
 have g1:=HM.out.c1;have gl:=HM.out.lt
 rw [HK.out] at g1
 clear hb1 hb2
 go_upto_region 8 with fail
 go_upto_region 9 with (first | (go_at_call 120;(with_reducible refine (CD.out _).mono ?_);rintro e w3 ⟨rfl,hb3⟩) | fail)
 refine kwp_named ?_
 intro w4 hw4
 have HB4:Bel W w4:=by rw [hw4];exact (HB.up hb3).al _
 have HV:At w4 w3.heap.size [.int .i64 u.x0,.int .i64 u.x1,.int .i64 u.x2,.int .i64 u.x3,.int .i64 u.x4,.int .i64 u.x5,.int .i64 u.x6,.int .i64 u.x7]:=by rw [hw4];exact at_new0 _ _ _
 have HQ:Hid (W.heap.size≤w3.heap.size):=Below.size (HB.up hb3)
 obtain ⟨qv,hqv⟩:∃ z,z=w3.heap.size:=⟨_,rfl⟩
 rw [← hqv] at HV HQ ⊢
 clear hw4 hqv g1 gl HM hb3
 have HM:=khide (HL.out.up HB4.hid)
 have HS:Hid (∀ w':World,Bel w4 w'→w'.cell? ⟨g,0,none⟩=some (.pointer (some ⟨p,0,none⟩))∧w'.cell? ⟨p,5,none⟩=some (.pointer (some ⟨x.p2,0,none⟩))∧w'.cell? ⟨qv,0,none⟩=some (.int .i64 u.x0)∧w'.cell? ⟨qv,1,none⟩=some (.int .i64 u.x1)∧w'.cell? ⟨qv,2,none⟩=some (.int .i64 u.x2)∧w'.cell? ⟨qv,3,none⟩=some (.int .i64 u.x3)∧w'.cell? ⟨qv,4,none⟩=some (.int .i64 u.x4)∧w'.cell? ⟨qv,5,none⟩=some (.int .i64 u.x5)∧w'.cell? ⟨qv,6,none⟩=some (.int .i64 u.x6)∧w'.cell? ⟨qv,7,none⟩=some (.int .i64 u.x7)):=fun w' hw =>
  ⟨(hw.cell HM.out.lt).trans HM.out.c0,(hw.cell HM.out.tab.lt).trans HM.out.tab.c5,(hw.cell HV.lt).trans HV.c0,(hw.cell HV.lt).trans HV.c1,(hw.cell HV.lt).trans HV.c2,(hw.cell HV.lt).trans (at_nth HV 3 rfl),(hw.cell HV.lt).trans (at_nth HV 4 rfl),(hw.cell HV.lt).trans (at_nth HV 5 rfl),(hw.cell HV.lt).trans (at_nth HV 6 rfl),(hw.cell HV.lt).trans (at_nth HV 7 rfl)⟩
 have hL1:=HM.out.lt;have hL2:=HM.out.tab.lt;have hL3:=HV.lt
 refine wp_region_held_drew (S:=fun w'=>w'.cell? ⟨g,0,none⟩=some (.pointer (some ⟨p,0,none⟩))∧w'.cell? ⟨p,5,none⟩=some (.pointer (some ⟨x.p2,0,none⟩))∧w'.cell? ⟨qv,0,none⟩=some (.int .i64 u.x0)∧w'.cell? ⟨qv,1,none⟩=some (.int .i64 u.x1)∧w'.cell? ⟨qv,2,none⟩=some (.int .i64 u.x2)∧w'.cell? ⟨qv,3,none⟩=some (.int .i64 u.x3)∧w'.cell? ⟨qv,4,none⟩=some (.int .i64 u.x4)∧w'.cell? ⟨qv,5,none⟩=some (.int .i64 u.x5)∧w'.cell? ⟨qv,6,none⟩=some (.int .i64 u.x6)∧w'.cell? ⟨qv,7,none⟩=some (.int .i64 u.x7)) (by kernel_rfl) ?_ (fun hHeld=>?_)
 ·exact HS.out _ (Bel.refl _).dr
 refine tq 0 ?_
 refine tq 1 ?_
 refine tq 2 ?_
 refine tq 3 ?_
 refine tq 4 ?_
 refine tq 5 ?_
 refine tq 6 ?_
 refine tq 7 ?_
 refine tq 8 ?_
 (refine sk 9 (fun K hK=>?_);go_simp;(first | (go_at_call 121;refine (CP.out _ HB4.dr).mono ?_;rintro e w5 ⟨rfl,⟨x1,HL1,T5,K5,X5⟩,hg5,hp5⟩;have HV5:w5.heap[qv]? = w4.heap[qv]?:=T5.block qv HV.lt (fun hm=>by have h1:=(HL.out.all_lt qv hm).2;have h2:=HQ.out;omega);have HBX:w5.cell? ⟨g,0,none⟩=some (.pointer (some ⟨p,0,none⟩))∧w5.cell? ⟨p,5,none⟩=some (.pointer (some ⟨x.p2,0,none⟩))∧w5.cell? ⟨qv,0,none⟩=some (.int .i64 u.x0)∧w5.cell? ⟨qv,1,none⟩=some (.int .i64 u.x1)∧w5.cell? ⟨qv,2,none⟩=some (.int .i64 u.x2)∧w5.cell? ⟨qv,3,none⟩=some (.int .i64 u.x3)∧w5.cell? ⟨qv,4,none⟩=some (.int .i64 u.x4)∧w5.cell? ⟨qv,5,none⟩=some (.int .i64 u.x5)∧w5.cell? ⟨qv,6,none⟩=some (.int .i64 u.x6)∧w5.cell? ⟨qv,7,none⟩=some (.int .i64 u.x7):=⟨(cell_same hg5 0).trans HM.out.c0,(cell_same hp5 5).trans HM.out.tab.c5,(cell_same HV5 0).trans HV.c0,(cell_same HV5 1).trans HV.c1,(cell_same HV5 2).trans HV.c2,(cell_same HV5 3).trans (at_nth HV 3 rfl),(cell_same HV5 4).trans (at_nth HV 4 rfl),(cell_same HV5 5).trans (at_nth HV 5 rfl),(cell_same HV5 6).trans (at_nth HV 6 rfl),(cell_same HV5 7).trans (at_nth HV 7 rfl)⟩) | fail);(try (go_wp2_with fail));refine hK.out _ _ ?_ (fun hHeld=>?_);(focus ((try dsimp only);exact HBX));clear hK K;(try simp only [lay7,Act.put]))
 refine tq 10 ?_
 refine wpAnyH_done (by decide +kernel) ?_ _
 have HV6:At w5 qv [.int .i64 u.x0,.int .i64 u.x1,.int .i64 u.x2,.int .i64 u.x3,.int .i64 u.x4,.int .i64 u.x5,.int .i64 u.x6,.int .i64 u.x7]:=HV.same T5.size HV5
 have HNV:Hid (qv ∉ x1.all g p y):=fun hm=>(X5 qv hm).elim (fun hm=>by have h1:=(HL.out.all_lt qv hm).2;have h2:=HQ.out;omega) (fun h=>by have h1:=HV.lt;have h3:w4.heap.size≤qv:=h;omega)
 have HQ5:Hid (W.heap.size≤w4.heap.size):=HB4.sz
 replace T5:Turn (x.all g p y) W w5:=((Turn.of HB4.dr.hid).trans T5).mono (by simp)
 replace K5:KU W w5:=(KU.below HB4.dr.hid).trans K5
 have HX5:Hid (∀ j ∈ x1.all g p y,j ∈ x.all g p y ∨ W.heap.size≤j):=fun j hj=>(X5 j hj).imp id (fun h=>Nat.le_trans HQ5.out h)
 have HT5:=khide T5
 have HK5:=khide K5
 have HLL:=khide HL1
 have HZ5:Hid (base≤w5.heap.size):=Nat.le_trans HBS.out T5.size
 have CI:Hid (∀ W',Calls Tryz.prog 123 #[.int .i64 1] W' (QaR W' 1 1)):=fun W'=>qint_h (by decide) (by decide) (by decide) ⟨by decide,by decide⟩ W'
 have CZ:Hid (∀ W',Calls Tryz.prog 123 #[.int .i64 0] W' (QaR W' 0 1)):=fun W'=>qint_h (by decide) (by decide) (by decide) ⟨by decide,by decide⟩ W'
 have CU:Hid (∀ W' b A n c A' n' c' b2 B m d B' m' d' b3 F k3 f F' k3' f',Bel w5 W'→QA W' b A n c A' n' c' 1 1→QA W' b2 B m d B' m' d' 0 1→QA W' b3 F k3 f F' k3' f' 1 1 →
  Calls Tryz.prog 122 #[.pointer (some ⟨g,0,none⟩),.agg #[.string s,.string s,.int .i64 (k:Int),.bool b,.slice A n c,.slice A' n' c',.bool b2,.slice B m d,.slice B' m' d',.bool false],.agg #[.int .i64 u.x0,.int .i64 u.x1,.int .i64 u.x2,.int .i64 u.x3,.int .i64 u.x4,.int .i64 u.x5,.int .i64 u.x6,.int .i64 u.x7],.agg #[.bool b3,.slice F k3 f,.slice F' k3' f']] W' fun r w'=>(∃ v,r = .returned v)∧Stp base W' g p y x1 { T with qv:=T.qv ++ [u],qn:=T.qn ++ [qn],ents:=T.ents ++ [(s,⟨s,(k:Int),1,0,false,u,1⟩)] } w'):=fun W' b A n c A' n' c' b2 B m d B' m' d' b3 F k3 f F' k3' f' hb h1 h2 h3 =>
  tput_h (e:=⟨s,(k:Int),1,0,false,u,1⟩) (HLL.out.up hb.hid) (Nat.le_trans HZ5.out hb.hid.out.size) HN.out HS0.out HLE.out (h1.more (by decide)) (h2.more (by decide)) (h3.more (by decide))
 clear HS HBX HV HV5 hg5 hp5 HM hL1 hL2 hL3 hHeld HL1 T5 K5 X5 CP CD
 go_upto_region 11 with fail
 have HS:Hid (∀ w':World,Bel w5 w'→w'.cell? ⟨g,1,none⟩=some (.int .i64 (k:Int))∧w'.cell? ⟨qv,0,none⟩=some (.int .i64 u.x0)∧w'.cell? ⟨qv,1,none⟩=some (.int .i64 u.x1)∧w'.cell? ⟨qv,2,none⟩=some (.int .i64 u.x2)∧w'.cell? ⟨qv,3,none⟩=some (.int .i64 u.x3)∧w'.cell? ⟨qv,4,none⟩=some (.int .i64 u.x4)∧w'.cell? ⟨qv,5,none⟩=some (.int .i64 u.x5)∧w'.cell? ⟨qv,6,none⟩=some (.int .i64 u.x6)∧w'.cell? ⟨qv,7,none⟩=some (.int .i64 u.x7)):=fun w' hw =>
  ⟨(hw.cell HLL.out.lt).trans (by have h1:=HLL.out.c1;rw [show Tb.bases { T with qv:=T.qv ++ [u],qn:=T.qn ++ [qn] }=k from HK.out] at h1;exact h1),(hw.cell HV6.lt).trans HV6.c0,(hw.cell HV6.lt).trans HV6.c1,(hw.cell HV6.lt).trans HV6.c2,(hw.cell HV6.lt).trans (at_nth HV6 3 rfl),(hw.cell HV6.lt).trans (at_nth HV6 4 rfl),(hw.cell HV6.lt).trans (at_nth HV6 5 rfl),(hw.cell HV6.lt).trans (at_nth HV6 6 rfl),(hw.cell HV6.lt).trans (at_nth HV6 7 rfl)⟩
 have HBX:Bel w5 w5:=Bel.refl _
 have hL1:=HLL.out.lt;have hL3:=HV6.lt
 refine wp_region_held_drew (S:=fun w'=>w'.cell? ⟨g,1,none⟩=some (.int .i64 (k:Int))∧w'.cell? ⟨qv,0,none⟩=some (.int .i64 u.x0)∧w'.cell? ⟨qv,1,none⟩=some (.int .i64 u.x1)∧w'.cell? ⟨qv,2,none⟩=some (.int .i64 u.x2)∧w'.cell? ⟨qv,3,none⟩=some (.int .i64 u.x3)∧w'.cell? ⟨qv,4,none⟩=some (.int .i64 u.x4)∧w'.cell? ⟨qv,5,none⟩=some (.int .i64 u.x5)∧w'.cell? ⟨qv,6,none⟩=some (.int .i64 u.x6)∧w'.cell? ⟨qv,7,none⟩=some (.int .i64 u.x7)) (by kernel_rfl) ?_ (fun hHeld=>?_)
 ·exact HS.out _ (Bel.refl _).dr
 refine tq 0 ?_
 refine tq 1 ?_
 refine tq 2 ?_
 refine tq 3 ?_
 refine tq 4 ?_
 refine tq 5 ?_
 refine tq 6 ?_
 refine tq 10 ?_
 (refine sk 7 (fun K hK=>?_);go_simp;(go_at_call 123;refine (CI.out _).mono ?_;rintro e wi ⟨i1,A1,n1,c1,B1,m1,d1,rfl,q1,hbk⟩;replace HBX:Bel w5 wi:=(by with_reducible first | exact HBX.up (Bel.hid hbk) | exact (Bel.refl w5).dr.up (Bel.hid hbk)));(try (go_wp2_with fail));refine hK.out _ _ ?_ (fun hHeld=>?_);(focus ((try dsimp only);(first | exact HS6 | exact HS.out _ HBX)));clear hK K;(try simp only [lay7,Act.put]))
 (refine sk 8 (fun K hK=>?_);go_simp;(go_at_call 123;refine (CZ.out _).mono ?_;rintro e wi ⟨i2,A2,n2,c2,B2,m2,d2,rfl,q2,hbk⟩;replace q1:=q1.up (Bel.hid hbk);replace HBX:Bel w5 wi:=(by with_reducible first | exact HBX.up (Bel.hid hbk) | exact (Bel.refl w5).dr.up (Bel.hid hbk)));(try (go_wp2_with fail));refine hK.out _ _ ?_ (fun hHeld=>?_);(focus ((try dsimp only);(first | exact HS6 | exact HS.out _ HBX)));clear hK K;(try simp only [lay7,Act.put]))
 refine tq 9 ?_
 (refine sk 11 (fun K hK=>?_);go_simp;(go_at_call 123;refine (CI.out _).mono ?_;rintro e wi ⟨i3,A3,n3,c3,B3,m3,d3,rfl,q3,hbk⟩;replace q1:=q1.up (Bel.hid hbk);replace q2:=q2.up (Bel.hid hbk);replace HBX:Bel w5 wi:=(by with_reducible first | exact HBX.up (Bel.hid hbk) | exact (Bel.refl w5).dr.up (Bel.hid hbk)));(try (go_wp2_with fail));refine hK.out _ _ ?_ (fun hHeld=>?_);(focus ((try dsimp only);(first | exact HS6 | exact HS.out _ HBX)));clear hK K;(try simp only [lay7,Act.put]))
 (refine sk 12 (fun K hK=>?_);go_simp;(go_at_call 122;refine (CU.out _ _ _ _ _ _ _ _ _ _ _ _ _ _ _ _ _ _ _ _ _ _ HBX q1 q2 q3).mono ?_;rintro e w6 ⟨⟨v',rfl⟩,x2,HL2,T6,K6,X6⟩;have HV8:=HV6.up (Bel.hid HBX);have HV7:w6.heap[qv]? = wi.heap[qv]?:=T6.block qv HV8.lt HNV.out;have HBE:=khide (Nat.le_refl 0);have HS6:w6.cell? ⟨g,1,none⟩=some (.int .i64 (k:Int))∧w6.cell? ⟨qv,0,none⟩=some (.int .i64 u.x0)∧w6.cell? ⟨qv,1,none⟩=some (.int .i64 u.x1)∧w6.cell? ⟨qv,2,none⟩=some (.int .i64 u.x2)∧w6.cell? ⟨qv,3,none⟩=some (.int .i64 u.x3)∧w6.cell? ⟨qv,4,none⟩=some (.int .i64 u.x4)∧w6.cell? ⟨qv,5,none⟩=some (.int .i64 u.x5)∧w6.cell? ⟨qv,6,none⟩=some (.int .i64 u.x6)∧w6.cell? ⟨qv,7,none⟩=some (.int .i64 u.x7):=⟨by have h1:=HL2.c1;rw [show Tb.bases { T with qv:=T.qv ++ [u],qn:=T.qn ++ [qn],ents:=T.ents ++ [(s,(⟨s,(k:Int),1,0,false,u,1⟩:Ent))] }=k from HK.out] at h1;exact h1,(cell_same HV7 0).trans HV8.c0,(cell_same HV7 1).trans HV8.c1,(cell_same HV7 2).trans HV8.c2,(cell_same HV7 3).trans (at_nth HV8 3 rfl),(cell_same HV7 4).trans (at_nth HV8 4 rfl),(cell_same HV7 5).trans (at_nth HV8 5 rfl),(cell_same HV7 6).trans (at_nth HV8 6 rfl),(cell_same HV7 7).trans (at_nth HV8 7 rfl)⟩);(try (go_wp2_with fail));refine hK.out _ _ ?_ (fun hHeld=>?_);(focus ((try dsimp only);(first | exact HS6 | exact HS.out _ HBX)));clear hK K;(try simp only [lay7,Act.put]))
 refine wpAnyH_done (by decide +kernel) ?_ _
 have HT6:Hid (Turn (x1.all g p y) w5 w6):=((Turn.of HBX.hid).trans T6).mono (by simp)
 have HK6:Hid (KU w5 w6):=(KU.below HBX.hid).trans K6
 have HX6:Hid (∀ j ∈ x2.all g p y,j ∈ x1.all g p y ∨ w5.heap.size≤j):=fun j hj=>(X6 j hj).imp id (fun h=>Nat.le_trans HBX.sz h)
 have HL6:=khide HL2
 have g1:=HS6.1
 have gl:=HL2.lt
 have gf:=HL2.f1
 have h8k:=HK7.out
 have ek:IntKind.i64.wrap ((k:Int) + 1)=(k:Int) + 1:=IntWalk.i64_in _ (by omega)
 clear h8k
 clear HS HBX HS6 HV6 HV7 HV8 HBE hL1 hL3 hHeld T6 K6 X6 HL2
 go_wp2_with fail
 refine vname_end ?_
 intro w7 hw7
 have T7:Turn [g] w6 w7:=by rw [hw7];exact Turn.set w6 ⟨g,1,none⟩ _
 have K7:KU w6 w7:=by rw [hw7];exact KU.set g1 (fun z e=>by cases e)
 have B7:w7.heap[g]? = some (.cells #[.pointer (some ⟨p,0,none⟩),.int .i64 ((k + 1:Nat):Int),.map (some y)] 124 (0,0)):=by
  have h1:=HL6.out.blk
  rw [hw7]
  simp [World.setCell,Array.getElem?_modify,h1]
 have s2:=count_end (n:=k + 1) HL6.out T7 K7 B7
 have s0:=Stp.comp HT5.out HK5.out HX5.out (Stp.comp HT6.out HK6.out HX6.out s2)
 go_ret
 exact ⟨rfl,s0⟩
end
end Go.Proofs.YtfflmmbhpchloaaGreatDoor
end
