/- Each theorem here says its own conditions. -/
import Derived.Test.YtfflmmbhpchloaaGreatDoorGTpwc37
set_option maxRecDepth 100000
set_option maxHeartbeats 16000000
section
open Go.RowKit
open Go.Proofs.YtfflmmbhpchloaaGreatDoor.V
namespace Go.Proofs.YtfflmmbhpchloaaGreatDoor
section
variable {base p g y N:Nat} {W W':World} {x:TPl} {T:Tb} {s id:ByteArray}
theorem Tb.quan_eq {q:PL} {vo:Option V8} (hq:quanB s=true) (hp:T.part id = .ok q) (hv:T.vec (q.1,q.2.1)=vo):T.addQuantity s id=match (generalizing:=false) vo with
  | none=>.error 5
  | some u=>if decide (u ∈ T.qv)=true then .error 10 else .ok { T with qv:=T.qv ++ [u],qn:=T.qn ++ [s] }:=by
 unfold Tb.addQuantity
 rw [hq,if_neg (by decide),hp]
 dsimp only
 rw [hv]
 cases vo with
 | none=>rfl
 | some u =>
   dsimp only
   by_cases hm:u ∈ T.qv
   ·rw [if_pos hm,if_pos (decide_eq_true hm)]
   ·rw [if_neg hm,if_neg (by rw [decide_eq_false hm];decide)]
theorem taddQuantity_h (h:LdM base W g p y x T) (ok:OkT N T) (hN:N≤900000) (hbase:base≤W.heap.size) :
 Calls Tryz.prog 88 #[.pointer (some ⟨g,0,none⟩),.string s,.string id] W (StR base W g p y x (T.addQuantity s id)):=by
 obtain ⟨qb,hqb⟩:∃ b,quanB s=b:=⟨_,rfl⟩
 have CQ:Hid (∀ W',Calls Tryz.prog 119 #[.string s] W' (RetB W' qb)):=fun W'=>tquan_h hqb W'
 have CP:Hid (∀ W',Bel W W'→Calls Tryz.prog 130 #[.pointer (some ⟨g,0,none⟩),.string id] W' (PaR W' (T.part id))):=fun W' hb=>tpart_h (h.up hb.hid) (Nat.le_trans ok.l1 (by omega)) (Nat.le_trans ok.l2 (by omega))
 have HM:=khide h
 have HB:=Bel.refl W
 have HBS:=khide hbase
 have HL4:Hid (T.qn.length≤900000):=Nat.le_trans ok.l4 hN
 have HQB:=khide hqb
 clear h ok hN hbase hqb
 cases qb
 ·have e1:T.addQuantity s id = .error 2:=by unfold Tb.addQuantity;rw [if_pos HQB.out]
  rw [e1]
  clear e1
  go_enter Tryz.func88,Tryz.ntmps88
  go_wp2_with (first | (go_at_call 119;(with_reducible refine (CQ.out _).mono ?_);rintro e w1 ⟨rfl,hb1⟩) | fail)
  go_ret
  exact ⟨rfl,hb1⟩
 cases hp:T.part id with
 | error v =>
   have e1:T.addQuantity s id = .error v:=by unfold Tb.addQuantity;rw [HQB.out,if_neg (by decide),hp]
   rw [e1]
   rw [hp] at CP
   have hv:=part_codes hp
   clear hp e1
   have CP2:Hid (∀ W',Bel W W'→Calls Tryz.prog 130 #[.pointer (some ⟨g,0,none⟩),.string id] W' fun e w'=>e = .returned (.tuple #[.agg #[.slice none 0 0,.slice none 0 0,.slice none 0 0],.int .i64 v])∧Bel W' w'):=fun W' hb=>CP.out W' hb
   clear CP
   rcases hv with rfl | rfl
   all_goals
    go_enter Tryz.func88,Tryz.ntmps88
    go_wp2_with (first | (go_at_call 119;(with_reducible refine (CQ.out _).mono ?_);rintro e w1 ⟨rfl,hb1⟩) | (go_at_call 130;(with_reducible refine (CP2.out _ (HB.up (Bel.hid hb1))).mono ?_);rintro e w2 ⟨rfl,hb2⟩) | fail)
    go_ret
    refine ⟨rfl,?_⟩
    exact ((HB.up (Bel.hid hb1)).up hb2.hid).al _
 | ok q =>
   rw [hp] at CP
   have hq:=part_ok hp
   obtain ⟨vo,hvo⟩:∃ z,T.vec (q.1,q.2.1)=z:=⟨_,rfl⟩
   obtain ⟨vv,hvv⟩:∃ z,vo.getD V8.z=z:=⟨_,rfl⟩
   obtain ⟨ob,hob⟩:∃ z,vo.isSome=z:=⟨_,rfl⟩
   obtain ⟨R,hR⟩:∃ z,T.addQuantity s id=z:=⟨_,rfl⟩
   have HDE:=khide (Tb.quan_eq HQB.out hp hvo)
   rw [hR] at HDE ⊢
   have HVV:=khide hvv
   have HOB:=khide hob
   have HVO:=khide hvo
   have CP2:Hid (∀ W',Bel W W'→Calls Tryz.prog 130 #[.pointer (some ⟨g,0,none⟩),.string id] W' fun e w'=>∃ A1 n1 c1 A2 n2 c2 A3 n3 c3,e = .returned (.tuple #[.agg #[.slice A1 n1 c1,.slice A2 n2 c2,.slice A3 n3 c3],.int .i64 0])∧PtR w' A1 n1 A2 n2 q.1 q.2.1∧Bel W' w'):=fun W' hb=>(CP.out W' hb).mono (by
    rintro e w' ⟨A1,n1,c1,A2,n2,c2,A3,n3,c3,h1,h3,h2⟩
    exact ⟨A1,n1,c1,A2,n2,c2,A3,n3,c3,h1,(q1_pt h3 hq).1,h2⟩)
   have CV0:Hid (∀ W' A1 n1 c1 A2 n2 c2 A3 n3 c3,Bel W W'→PtR W' A1 n1 A2 n2 q.1 q.2.1→Calls Tryz.prog 12 #[.pointer (some ⟨p,0,none⟩),.agg #[.slice A1 n1 c1,.slice A2 n2 c2,.slice A3 n3 c3]] W' (fun e w'=>e = .returned (.tuple #[vv.v,.bool ob])∧Bel W' w')):=fun W' A1 n1 c1 A2 n2 c2 A3 n3 c3 hb hpt=>by
    rw [← hob,← hvv,← hvo];exact tvec_h (HM.out.tab.up hb.hid) hpt
   clear CP hp hR hvv hob hvo hq
   go_enter Tryz.func88,Tryz.ntmps88
   go_upto_region 6 with (first | (go_at_call 119;(with_reducible refine (CQ.out _).mono ?_);rintro e w1 ⟨rfl,hb1⟩) | (go_at_call 130;(with_reducible refine (CP2.out _ (HB.up (Bel.hid hb1))).mono ?_);rintro e w2 ⟨A1,n1,c1,A2,n2,c2,A3,n3,c3,rfl,hpt,hb2⟩) | fail)
   refine kwp_named ?_
   intro W2 hW2
   replace HB:Bel W W2:=by rw [hW2];exact ((HB.up (Bel.hid hb1)).up hb2.hid).al _
   have HP:At W2 w2.heap.size [.slice A1 n1 c1,.slice A2 n2 c2,.slice A3 n3 c3]:=by rw [hW2];exact at_new0 _ _ _
   have hpt2:PtR W2 A1 n1 A2 n2 q.1 q.2.1:=by rw [hW2];exact hpt.up (((Below.refl _ _).alloc (Nat.le_refl _) _))
   obtain ⟨qp,hqp⟩:∃ z,z=w2.heap.size:=⟨_,rfl⟩
   rw [← hqp] at HP ⊢
   have CV:Hid (∀ W',Bel W2 W'→Calls Tryz.prog 12 #[.pointer (some ⟨p,0,none⟩),.agg #[.slice A1 n1 c1,.slice A2 n2 c2,.slice A3 n3 c3]] W' (fun e w'=>e = .returned (.tuple #[vv.v,.bool ob])∧Bel W' w')):=fun W' hb=>CV0.out W' _ _ _ _ _ _ _ _ _ (HB.up hb.hid) (hpt2.up hb.hid)
   clear hW2 hqp hb1 hb2 hpt hpt2 CV0
   go_cut [9,10] from 23 to 31 (fun o f w'=>∃ qv,o = .pointer (some ⟨qv,0,none⟩)∧f = .bool ob∧At w' qv [.int .i64 vv.x0,.int .i64 vv.x1,.int .i64 vv.x2,.int .i64 vv.x3,.int .i64 vv.x4,.int .i64 vv.x5,.int .i64 vv.x6,.int .i64 vv.x7]∧Hid (W2.heap.size≤qv)∧Bel W2 w')
   case first =>
    have HM2:=khide (HM.out.up HB.hid)
    have HS:Hid (∀ w':World,Bel W2 w'→w'.cell? ⟨g,0,none⟩=some (.pointer (some ⟨p,0,none⟩))∧w'.cell? ⟨qp,0,none⟩=some (.slice A1 n1 c1)∧w'.cell? ⟨qp,1,none⟩=some (.slice A2 n2 c2)∧w'.cell? ⟨qp,2,none⟩=some (.slice A3 n3 c3)):=fun w' hw =>
     ⟨(hw.cell HM2.out.lt).trans HM2.out.c0,(hw.cell HP.lt).trans HP.c0,(hw.cell HP.lt).trans HP.c1,(hw.cell HP.lt).trans HP.c2⟩
    have HBX:Bel W2 W2:=Bel.refl _
    have hL2:=HP.lt;have hL3:=HM2.out.lt
    refine wp_region_held_drew (S:=fun w'=>w'.cell? ⟨g,0,none⟩=some (.pointer (some ⟨p,0,none⟩))∧w'.cell? ⟨qp,0,none⟩=some (.slice A1 n1 c1)∧w'.cell? ⟨qp,1,none⟩=some (.slice A2 n2 c2)∧w'.cell? ⟨qp,2,none⟩=some (.slice A3 n3 c3)) (by kernel_rfl) ?_ (fun hHeld=>?_)
    ·exact HS.out _ (Bel.refl _).dr
    refine tq 0 ?_
    refine tq 1 ?_
    refine tq 2 ?_
    refine tq 3 ?_
    refine tq 4 ?_
    refine wpAnyH_ready (rs:=[5,9]) (by decide +kernel) (by simp) ?_
    refine AllReadyH.cons rfl (fun K hK=>?_) (AllReadyH.cons rfl (fun K hK=>?_) (AllReadyH.nil))
    ·(go_simp;(first | (go_at_call 12;refine (CV.out _ (by with_reducible first | exact (Bel.refl W2).dr | exact ((Bel.refl W2).al _).dr | exact HBX | exact HBX.al _)).mono ?_;rintro e wc ⟨rfl,hbk⟩;(first | (with_reducible replace HV0:=At.up HV0 (Bel.hid hbk)) | (with_reducible have HV0:=At.up (at_new0 _ [.int .i64 0,.int .i64 0,.int .i64 0,.int .i64 0,.int .i64 0,.int .i64 0,.int .i64 0,.int .i64 0] _) (Bel.hid hbk)) | (with_reducible have HV0:=At.up (at_new0 _ [.int .i64 0,.int .i64 0,.int .i64 0,.int .i64 0,.int .i64 0,.int .i64 0,.int .i64 0,.int .i64 0] _).dr (Bel.hid hbk)) | skip);(with_reducible first | (have HR0:=row_keep (Bel.hid hbk)) | (have HR0:=row_keepd (Bel.hid hbk)) | skip);(try (skip));replace HBX:Bel W2 wc:=(by with_reducible first | exact HBX.up (Bel.hid hbk) | exact (HBX.al _).up (Bel.hid hbk) | exact (Bel.refl W2).dr.up (Bel.hid hbk) | exact ((Bel.refl W2).al _).dr.up (Bel.hid hbk));skip) | fail);(try (go_wp2_with fail));refine hK.out _ _ ?_ (fun hHeld=>?_);(focus ((try dsimp only);exact HS.out _ (by with_reducible first | exact HBX | exact HBX.al _ | exact ((Bel.refl W2).al _).dr)));clear hK K;(try simp only [lay7,Act.put]))
     refine tq 6 ?_
     refine tq 7 ?_
     refine tq 8 ?_
     (refine sk 9 (fun K hK=>?_);go_simp;refine hK.out _ _ ?_ (fun hHeld=>?_);(focus ((try dsimp only);exact HS.out _ (by with_reducible first | exact HBX | exact HBX.al _ | exact ((Bel.refl W2).al _).dr)));clear hK K;(try simp only [lay7,Act.put]))
     (refine sk 10 (fun K hK=>?_);go_simp;refine hK.out _ _ ?_ (fun hHeld=>?_);(focus ((try dsimp only);exact HS.out _ (by with_reducible first | exact HBX | exact HBX.al _ | exact ((Bel.refl W2).al _).dr)));clear hK K;(try simp only [lay7,Act.put]))
     refine tq 11 ?_
     refine wpAnyH_done (by decide +kernel) ?_ _
     go_wp2_with fail
     go_meet
     case rel=>refine ⟨_,rfl,rfl,?_,?_,?_⟩ <;> with_reducible first | exact at_new0 _ _ _ | exact HBX.al _ | exact at_row HR0 | exact bel_row HBX (Nat.le_refl _) | exact khide HBX.sz | exact khide (Nat.le_refl _)
    ·(go_simp;refine hK.out _ _ ?_ (fun hHeld=>?_);(focus ((try dsimp only);exact HS.out _ (by with_reducible first | exact HBX | exact HBX.al _ | exact ((Bel.refl W2).al _).dr)));clear hK K;(try simp only [lay7,Act.put]))
     (refine sk 5 (fun K hK=>?_);go_simp;(first | (go_at_call 12;refine (CV.out _ (by with_reducible first | exact (Bel.refl W2).dr | exact ((Bel.refl W2).al _).dr | exact HBX | exact HBX.al _)).mono ?_;rintro e wc ⟨rfl,hbk⟩;(first | (with_reducible replace HV0:=At.up HV0 (Bel.hid hbk)) | (with_reducible have HV0:=At.up (at_new0 _ [.int .i64 0,.int .i64 0,.int .i64 0,.int .i64 0,.int .i64 0,.int .i64 0,.int .i64 0,.int .i64 0] _) (Bel.hid hbk)) | (with_reducible have HV0:=At.up (at_new0 _ [.int .i64 0,.int .i64 0,.int .i64 0,.int .i64 0,.int .i64 0,.int .i64 0,.int .i64 0,.int .i64 0] _).dr (Bel.hid hbk)) | skip);(with_reducible first | (have HR0:=row_keep (Bel.hid hbk)) | (have HR0:=row_keepd (Bel.hid hbk)) | skip);(try (skip));replace HBX:Bel W2 wc:=(by with_reducible first | exact HBX.up (Bel.hid hbk) | exact (HBX.al _).up (Bel.hid hbk) | exact (Bel.refl W2).dr.up (Bel.hid hbk) | exact ((Bel.refl W2).al _).dr.up (Bel.hid hbk));skip) | fail);(try (go_wp2_with fail));refine hK.out _ _ ?_ (fun hHeld=>?_);(focus ((try dsimp only);exact HS.out _ (by with_reducible first | exact HBX | exact HBX.al _ | exact ((Bel.refl W2).al _).dr)));clear hK K;(try simp only [lay7,Act.put]))
     refine tq 6 ?_
     refine tq 7 ?_
     refine tq 8 ?_
     (refine sk 10 (fun K hK=>?_);refine if_plain rfl ?_;refine wp_store_row 36 (.tmp 9) (.tmp 30) rfl _ #[.int .i64 vv.x0,.int .i64 vv.x1,.int .i64 vv.x2,.int .i64 vv.x3,.int .i64 vv.x4,.int .i64 vv.x5,.int .i64 vv.x6,.int .i64 vv.x7] rfl rfl 36 _ HR0 (by kernel_rfl) rfl (by first | kernel_rfl | simp [Value.oneCell']) ?_;refine hK.out _ _ (HS.out _ (bel_row HBX (Nat.le_refl _))) (fun hHeld=>?_);clear hK K;(try simp only [lay7,Act.put]))
     refine tq 11 ?_
     refine wpAnyH_done (by decide +kernel) ?_ _
     go_wp2_with fail
     go_meet
     case rel=>refine ⟨_,rfl,rfl,?_,?_,?_⟩ <;> with_reducible first | exact at_new0 _ _ _ | exact HBX.al _ | exact at_row HR0 | exact bel_row HBX (Nat.le_refl _) | exact khide HBX.sz | exact khide (Nat.le_refl _)
   case rest =>
   obtain ⟨qv,rfl,rfl,HV,hqv,hw3⟩:=hcut
   have HNQ:Hid (qv ∉ x.all g p y):=fun hm=>by have h1:=(HM.out.all_lt qv hm).2;have h2:=HB.sz;have h3:=hqv.out;omega
   replace HB:=HB.up (Bel.hid hw3)
   clear hw3 hqv
   cases vo with
   | none =>
     obtain rfl:false=ob:=HOB.out
     go_wp2_with fail
     go_ret
     have e1:R = .error 5:=HDE.out
     rw [e1]
     exact ⟨rfl,HB⟩
   | some u =>
     obtain rfl:true=ob:=HOB.out
     obtain rfl:u=vv:=HVV.out
     have hwf:=(vec_ok HVO.out).2
     obtain ⟨t,ht⟩:∃ t,decide (u ∈ T.qv)=t:=⟨_,rfl⟩
     have CP:Hid (∀ W',Bel W W'→Calls Tryz.prog 121 #[.pointer (some ⟨x.p2,0,none⟩),.agg #[.int .i64 u.x0,.int .i64 u.x1,.int .i64 u.x2,.int .i64 u.x3,.int .i64 u.x4,.int .i64 u.x5,.int .i64 u.x6,.int .i64 u.x7],.string s] W' (QpR base W' g p y x T u s t)):=fun W' hb=>tqput_h (HM.out.up hb.hid) (Nat.le_trans HBS.out hb.hid.out.size) HL4.out hwf (quan_more HQB.out) ht
     have HDT:Hid (R=if t=true then .error 10 else .ok { T with qv:=T.qv ++ [u],qn:=T.qn ++ [s] }):=by rw [← ht];exact HDE.out
     clear hwf ht HDE CV CP2 CQ HP
     go_upto_region 9 with fail
     obtain ⟨w4,rfl⟩:∃ X,X=wc:=⟨_,rfl⟩
     have HM5:=khide (HM.out.up HB.hid)
     have HS:Hid (∀ w':World,Bel w4 w'→w'.cell? ⟨g,0,none⟩=some (.pointer (some ⟨p,0,none⟩))∧w'.cell? ⟨p,5,none⟩=some (.pointer (some ⟨x.p2,0,none⟩))∧w'.cell? ⟨qv,0,none⟩=some (.int .i64 u.x0)∧w'.cell? ⟨qv,1,none⟩=some (.int .i64 u.x1)∧w'.cell? ⟨qv,2,none⟩=some (.int .i64 u.x2)∧w'.cell? ⟨qv,3,none⟩=some (.int .i64 u.x3)∧w'.cell? ⟨qv,4,none⟩=some (.int .i64 u.x4)∧w'.cell? ⟨qv,5,none⟩=some (.int .i64 u.x5)∧w'.cell? ⟨qv,6,none⟩=some (.int .i64 u.x6)∧w'.cell? ⟨qv,7,none⟩=some (.int .i64 u.x7)):=fun w' hw =>
      ⟨(hw.cell HM5.out.lt).trans HM5.out.c0,(hw.cell HM5.out.tab.lt).trans HM5.out.tab.c5,(hw.cell HV.lt).trans HV.c0,(hw.cell HV.lt).trans HV.c1,(hw.cell HV.lt).trans HV.c2,(hw.cell HV.lt).trans (at_nth HV 3 rfl),(hw.cell HV.lt).trans (at_nth HV 4 rfl),(hw.cell HV.lt).trans (at_nth HV 5 rfl),(hw.cell HV.lt).trans (at_nth HV 6 rfl),(hw.cell HV.lt).trans (at_nth HV 7 rfl)⟩
     have hL1:=HM5.out.lt;have hL2:=HM5.out.tab.lt;have hL3:=HV.lt
     cases t
     rotate_left
     ·replace CP:Hid (∀ W',Bel W W'→Calls Tryz.prog 121 #[.pointer (some ⟨x.p2,0,none⟩),.agg #[.int .i64 u.x0,.int .i64 u.x1,.int .i64 u.x2,.int .i64 u.x3,.int .i64 u.x4,.int .i64 u.x5,.int .i64 u.x6,.int .i64 u.x7],.string s] W' (fun e w'=>e = .returned (.bool false)∧Bel W' w')):=CP
      have HBX:Bel w4 w4:=Bel.refl _
      refine wp_region_held_drew (S:=fun w'=>w'.cell? ⟨g,0,none⟩=some (.pointer (some ⟨p,0,none⟩))∧w'.cell? ⟨p,5,none⟩=some (.pointer (some ⟨x.p2,0,none⟩))∧w'.cell? ⟨qv,0,none⟩=some (.int .i64 u.x0)∧w'.cell? ⟨qv,1,none⟩=some (.int .i64 u.x1)∧w'.cell? ⟨qv,2,none⟩=some (.int .i64 u.x2)∧w'.cell? ⟨qv,3,none⟩=some (.int .i64 u.x3)∧w'.cell? ⟨qv,4,none⟩=some (.int .i64 u.x4)∧w'.cell? ⟨qv,5,none⟩=some (.int .i64 u.x5)∧w'.cell? ⟨qv,6,none⟩=some (.int .i64 u.x6)∧w'.cell? ⟨qv,7,none⟩=some (.int .i64 u.x7)) (by kernel_rfl) ?_ (fun hHeld=>?_)
      ·exact HS.out _ (Bel.refl _).dr
      refine tq 0 ?_
      refine tq 1 ?_
      refine tq 2 ?_
      refine tq 3 ?_
      refine tq 4 ?_
      refine tq 5 ?_
      refine tq 6 ?_
      refine tq 7 ?_
      refine tq 8 ?_
      (refine sk 9 (fun K hK=>?_);go_simp;(first | (go_at_call 121;refine (CP.out _ HB.dr).mono ?_;rintro e w5 ⟨rfl,hb5⟩;replace HBX:Bel w4 w5:=(Bel.refl w4).dr.up (Bel.hid hb5)) | fail);(try (go_wp2_with fail));refine hK.out _ _ ?_ (fun hHeld=>?_);(focus ((try dsimp only);exact HS.out _ HBX));clear hK K;(try simp only [lay7,Act.put]))
      refine tq 10 ?_
      refine wpAnyH_done (by decide +kernel) ?_ _
      go_wp2_with fail
      go_ret
      have e1:R = .error 10:=HDT.out
      rw [e1]
      exact ⟨rfl,HB.up (Bel.hid HBX)⟩
     replace CP:Hid (∀ W',Bel W W'→Calls Tryz.prog 121 #[.pointer (some ⟨x.p2,0,none⟩),.agg #[.int .i64 u.x0,.int .i64 u.x1,.int .i64 u.x2,.int .i64 u.x3,.int .i64 u.x4,.int .i64 u.x5,.int .i64 u.x6,.int .i64 u.x7],.string s] W' (fun e w'=>e = .returned (.bool true)∧Stp base W' g p y x { T with qv:=T.qv ++ [u],qn:=T.qn ++ [s] } w'∧w'.heap[g]? = W'.heap[g]? ∧ w'.heap[p]? = W'.heap[p]?)):=CP
     refine wp_region_held_drew (S:=fun w'=>w'.cell? ⟨g,0,none⟩=some (.pointer (some ⟨p,0,none⟩))∧w'.cell? ⟨p,5,none⟩=some (.pointer (some ⟨x.p2,0,none⟩))∧w'.cell? ⟨qv,0,none⟩=some (.int .i64 u.x0)∧w'.cell? ⟨qv,1,none⟩=some (.int .i64 u.x1)∧w'.cell? ⟨qv,2,none⟩=some (.int .i64 u.x2)∧w'.cell? ⟨qv,3,none⟩=some (.int .i64 u.x3)∧w'.cell? ⟨qv,4,none⟩=some (.int .i64 u.x4)∧w'.cell? ⟨qv,5,none⟩=some (.int .i64 u.x5)∧w'.cell? ⟨qv,6,none⟩=some (.int .i64 u.x6)∧w'.cell? ⟨qv,7,none⟩=some (.int .i64 u.x7)) (by kernel_rfl) ?_ (fun hHeld=>?_)
     ·exact HS.out _ (Bel.refl _).dr
     refine tq 0 ?_
     refine tq 1 ?_
     refine tq 2 ?_
     refine tq 3 ?_
     refine tq 4 ?_
     refine tq 5 ?_
     refine tq 6 ?_
     refine tq 7 ?_
     refine tq 8 ?_
     (refine sk 9 (fun K hK=>?_);go_simp;(first | (go_at_call 121;refine (CP.out _ HB.dr).mono ?_;rintro e w5 ⟨rfl,hst,hg5,hp5⟩;have HV5:w5.heap[qv]? = w4.heap[qv]?:=(by obtain ⟨x1,_,T5,_,_⟩:=hst;exact T5.block qv HV.lt HNQ.out);have HBX:w5.cell? ⟨g,0,none⟩=some (.pointer (some ⟨p,0,none⟩))∧w5.cell? ⟨p,5,none⟩=some (.pointer (some ⟨x.p2,0,none⟩))∧w5.cell? ⟨qv,0,none⟩=some (.int .i64 u.x0)∧w5.cell? ⟨qv,1,none⟩=some (.int .i64 u.x1)∧w5.cell? ⟨qv,2,none⟩=some (.int .i64 u.x2)∧w5.cell? ⟨qv,3,none⟩=some (.int .i64 u.x3)∧w5.cell? ⟨qv,4,none⟩=some (.int .i64 u.x4)∧w5.cell? ⟨qv,5,none⟩=some (.int .i64 u.x5)∧w5.cell? ⟨qv,6,none⟩=some (.int .i64 u.x6)∧w5.cell? ⟨qv,7,none⟩=some (.int .i64 u.x7):=⟨(cell_same hg5 0).trans HM5.out.c0,(cell_same hp5 5).trans HM5.out.tab.c5,(cell_same HV5 0).trans HV.c0,(cell_same HV5 1).trans HV.c1,(cell_same HV5 2).trans HV.c2,(cell_same HV5 3).trans (at_nth HV 3 rfl),(cell_same HV5 4).trans (at_nth HV 4 rfl),(cell_same HV5 5).trans (at_nth HV 5 rfl),(cell_same HV5 6).trans (at_nth HV 6 rfl),(cell_same HV5 7).trans (at_nth HV 7 rfl)⟩) | fail);(try (go_wp2_with fail));refine hK.out _ _ ?_ (fun hHeld=>?_);(focus ((try dsimp only);exact HBX));clear hK K;(try simp only [lay7,Act.put]))
     refine tq 10 ?_
     refine wpAnyH_done (by decide +kernel) ?_ _
     go_wp2_with fail
     go_ret
     have e1:R = .ok { T with qv:=T.qv ++ [u],qn:=T.qn ++ [s] }:=HDT.out
     rw [e1]
     exact ⟨rfl,hst.pre HB.dr.hid⟩
end
section
variable {base p g y N:Nat} {W W':World} {x:TPl} {T:Tb} {k a b d f:ByteArray} {r:List ByteArray}
theorem StR.below {R:Except Int Tb} {e:Ending} {w':World} (hs:StR base W g p y x R e w') (h:LdM base W g p y x T) (hb:base≤W.heap.size):Below base W w':=by
 cases R with
 | error v=>exact hs.2.mono hb
 | ok T'=>exact hs.2.below h hb
theorem row_base:T.row [baseK,a,b]=T.addBase a b:=by
 unfold Tb.row
 dsimp only
 rw [if_pos ⟨rfl,rfl⟩];rfl
theorem row_prefix:T.row [prefixK,a,b,d]=T.addPrefix a b d:=by
 unfold Tb.row
 dsimp only
 rw [if_neg (by rintro ⟨h,_⟩;exact absurd h (by decide)),if_pos ⟨rfl,rfl⟩];rfl
theorem row_unit4:T.row [unitK,a,b,d]=T.addUnit a b d []:=by
 unfold Tb.row
 dsimp only
 rw [if_neg (by rintro ⟨h,_⟩;exact absurd h (by decide)),if_neg (by rintro ⟨h,_⟩;exact absurd h (by decide)),if_pos ⟨rfl,.inl rfl⟩];rfl
theorem row_unit5:T.row [unitK,a,b,d,f]=T.addUnit a b d [f]:=by
 unfold Tb.row
 dsimp only
 rw [if_neg (by rintro ⟨h,_⟩;exact absurd h (by decide)),if_neg (by rintro ⟨h,_⟩;exact absurd h (by decide)),if_pos ⟨rfl,.inr rfl⟩];rfl
theorem row_quantity:T.row [quantityK,a,b]=T.addQuantity a b:=by
 unfold Tb.row
 dsimp only
 rw [if_neg (by rintro ⟨h,_⟩;exact absurd h (by decide)),if_neg (by rintro ⟨h,_⟩;exact absurd h (by decide)),if_neg (by rintro ⟨h,_⟩;exact absurd h (by decide)),if_pos ⟨rfl,rfl⟩];rfl
theorem row_alias:T.row [aliasK,a,b]=T.addAlias a b:=by
 unfold Tb.row
 dsimp only
 rw [if_neg (by rintro ⟨h,_⟩;exact absurd h (by decide)),if_neg (by rintro ⟨h,_⟩;exact absurd h (by decide)),if_neg (by rintro ⟨h,_⟩;exact absurd h (by decide)),if_neg (by rintro ⟨h,_⟩;exact absurd h (by decide)),if_pos ⟨rfl,rfl⟩];rfl
theorem row_bad (h1:k=baseK→r.length ≠ 2) (h2:k=prefixK→r.length ≠ 3) (h3:k=unitK→r.length ≠ 3∧r.length ≠ 4) (h4:k=quantityK→r.length ≠ 2) (h5:k=aliasK→r.length ≠ 2):T.row (k :: r)=if kindB k=true then .error 2 else .ok T:=by
 unfold Tb.row
 dsimp only
 rw [if_neg (fun h=>h1 h.1 h.2),if_neg (fun h=>h2 h.1 h.2),if_neg (fun h=>h.2.elim (h3 h.1).1 (h3 h.1).2),if_neg (fun h=>h4 h.1 h.2),if_neg (fun h=>h5 h.1 h.2)]
theorem ss_five {W:World} {b0 o0:Nat} {f:ByteArray} (h:W.cell? ⟨b0,o0 + 4,none⟩=some (.string f)) (hb:b0 < W.heap.size):Ss W (some ⟨b0,o0 + 4,none⟩) [f]:=fun _=>by
 refine ⟨⟨b0,o0 + 4,none⟩,rfl,hb,fun j x hj=>?_⟩
 match j,hj with
 | 0,hj=>injection hj with hj;subst hj;exact h
theorem len_two (h:r.length=2):∃ a b,r=[a,b]:=by
 match r,h with
 | [a,b],_=>exact ⟨a,b,rfl⟩
theorem len_three (h:r.length=3):∃ a b c,r=[a,b,c]:=by
 match r,h with
 | [a,b,c],_=>exact ⟨a,b,c,rfl⟩
theorem len_four (h:r.length=4):∃ a b c d,r=[a,b,c,d]:=by
 match r,h with
 | [a,b,c,d],_=>exact ⟨a,b,c,d,rfl⟩
theorem trow_base {b0 o0 c:Nat} (h:LdM base W g p y x T) (ok:OkT N T) (hN:N≤900000) (hbase:base≤W.heap.size) (tb:Tabs W) (hc:W.cell? ⟨b0,o0,none⟩=some (.string baseK)∧W.cell? ⟨b0,o0 + 1,none⟩=some (.string a)∧W.cell? ⟨b0,o0 + 2,none⟩=some (.string b)) (hb0:b0 < base) (hnc:3≤c) (hz:∀ s ∈ [baseK,a,b],s.size≤2000000) :
 Calls Tryz.prog 50 #[.pointer (some ⟨g,0,none⟩),.slice (some ⟨b0,o0,none⟩) 3 c] W (StR base W g p y x (T.row [baseK,a,b])):=by
 rw [row_base]
 have CB:Hid (∀ W',Bel W W'→Calls Tryz.prog 85 #[.pointer (some ⟨g,0,none⟩),.string a,.string b] W' (StR base W' g p y x (T.addBase a b))):=fun W' hb=>taddBase_h (h.up hb.hid) ok hN (Nat.le_trans hbase hb.hid.out.size) (hz a (by simp))
 have HM:=khide h
 have HBS:=khide hbase
 have HS:Hid (∀ w',Below base W w'→w'.cell? ⟨b0,o0,none⟩=some (.string baseK)∧w'.cell? ⟨b0,o0 + 1,none⟩=some (.string a)∧w'.cell? ⟨b0,o0 + 2,none⟩=some (.string b)):=fun w' hw=>⟨(hw.cell hb0).trans hc.1,(hw.cell hb0).trans hc.2.1,(hw.cell hb0).trans hc.2.2⟩
 have hk0:=hc.1
 have hl0:b0 < W.heap.size:=Nat.lt_of_lt_of_le hb0 hbase
 clear h ok hN hbase tb hc hb0 hz hnc
 go_enter Tryz.func50,Tryz.ntmps50
 simp only [baseK,prefixK,unitK,quantityK,aliasK] at hk0
 go_upto_region 5 with fail
 refine wp_region_held_drew (S:=fun w'=>w'.cell? ⟨b0,o0,none⟩=some (.string baseK)∧w'.cell? ⟨b0,o0 + 1,none⟩=some (.string a)∧w'.cell? ⟨b0,o0 + 2,none⟩=some (.string b)) (by kernel_rfl) ?_ (fun hHeld=>?_)
 ·exact HS.out _ (Below.refl base W).drew
 refine tq 0 ?_
 refine tq 1 ?_
 refine tq 2 ?_
 refine tq 3 ?_
 refine tq 4 ?_
 refine tq 5 ?_
 refine tq 6 ?_
 (refine sk 7 (fun K hK=>?_);go_simp;(first | (go_at_call 85;refine (CB.out _ (Bel.refl W).dr).mono ?_;rintro e w2 hst;obtain ⟨v2,rfl⟩:=hst.ret;have HSX:=HS.out _ ((Below.refl base W).drew.trans (StR.below hst (HM.out.up (Bel.refl W).dr.hid) HBS.out))) | fail);(try (go_wp2_with fail));refine hK.out _ _ ?_ (fun hHeld=>?_);(focus ((try dsimp only);exact HSX));clear hK K;(try simp only [lay7,Act.put]))
 refine tq 8 ?_
 refine wpAnyH_done (by decide +kernel) ?_ _
 go_wp2_with fail
 go_ret
 exact hst.pre (Bel.refl W).dr
theorem trow_quantity {b0 o0 c:Nat} (h:LdM base W g p y x T) (ok:OkT N T) (hN:N≤900000) (hbase:base≤W.heap.size) (tb:Tabs W) (hc:W.cell? ⟨b0,o0,none⟩=some (.string quantityK)∧W.cell? ⟨b0,o0 + 1,none⟩=some (.string a)∧W.cell? ⟨b0,o0 + 2,none⟩=some (.string b)) (hb0:b0 < base) (hnc:3≤c) (hz:∀ s ∈ [quantityK,a,b],s.size≤2000000) :
 Calls Tryz.prog 50 #[.pointer (some ⟨g,0,none⟩),.slice (some ⟨b0,o0,none⟩) 3 c] W (StR base W g p y x (T.row [quantityK,a,b])):=by
 rw [row_quantity]
 have CB:Hid (∀ W',Bel W W'→Calls Tryz.prog 88 #[.pointer (some ⟨g,0,none⟩),.string a,.string b] W' (StR base W' g p y x (T.addQuantity a b))):=fun W' hb=>taddQuantity_h (h.up hb.hid) ok hN (Nat.le_trans hbase hb.hid.out.size)
 have HM:=khide h
 have HBS:=khide hbase
 have HS:Hid (∀ w',Below base W w'→w'.cell? ⟨b0,o0,none⟩=some (.string quantityK)∧w'.cell? ⟨b0,o0 + 1,none⟩=some (.string a)∧w'.cell? ⟨b0,o0 + 2,none⟩=some (.string b)):=fun w' hw=>⟨(hw.cell hb0).trans hc.1,(hw.cell hb0).trans hc.2.1,(hw.cell hb0).trans hc.2.2⟩
 have hk0:=hc.1
 have hl0:b0 < W.heap.size:=Nat.lt_of_lt_of_le hb0 hbase
 clear h ok hN hbase tb hc hb0 hz hnc
 go_enter Tryz.func50,Tryz.ntmps50
 simp only [baseK,prefixK,unitK,quantityK,aliasK] at hk0
 go_upto_region 11 with fail
 refine wp_region_held_drew (S:=fun w'=>w'.cell? ⟨b0,o0,none⟩=some (.string quantityK)∧w'.cell? ⟨b0,o0 + 1,none⟩=some (.string a)∧w'.cell? ⟨b0,o0 + 2,none⟩=some (.string b)) (by kernel_rfl) ?_ (fun hHeld=>?_)
 ·exact HS.out _ (Below.refl base W).drew
 refine tq 0 ?_
 refine tq 1 ?_
 refine tq 2 ?_
 refine tq 3 ?_
 refine tq 4 ?_
 refine tq 5 ?_
 refine tq 6 ?_
 (refine sk 7 (fun K hK=>?_);go_simp;(first | (go_at_call 88;refine (CB.out _ (Bel.refl W).dr).mono ?_;rintro e w2 hst;obtain ⟨v2,rfl⟩:=hst.ret;have HSX:=HS.out _ ((Below.refl base W).drew.trans (StR.below hst (HM.out.up (Bel.refl W).dr.hid) HBS.out))) | fail);(try (go_wp2_with fail));refine hK.out _ _ ?_ (fun hHeld=>?_);(focus ((try dsimp only);exact HSX));clear hK K;(try simp only [lay7,Act.put]))
 refine tq 8 ?_
 refine wpAnyH_done (by decide +kernel) ?_ _
 go_wp2_with fail
 go_ret
 exact hst.pre (Bel.refl W).dr
theorem trow_alias {b0 o0 c:Nat} (h:LdM base W g p y x T) (ok:OkT N T) (hN:N≤900000) (hbase:base≤W.heap.size) (tb:Tabs W) (hc:W.cell? ⟨b0,o0,none⟩=some (.string aliasK)∧W.cell? ⟨b0,o0 + 1,none⟩=some (.string a)∧W.cell? ⟨b0,o0 + 2,none⟩=some (.string b)) (hb0:b0 < base) (hnc:3≤c) (hz:∀ s ∈ [aliasK,a,b],s.size≤2000000) :
 Calls Tryz.prog 50 #[.pointer (some ⟨g,0,none⟩),.slice (some ⟨b0,o0,none⟩) 3 c] W (StR base W g p y x (T.row [aliasK,a,b])):=by
 rw [row_alias]
 have CB:Hid (∀ W',Bel W W'→Calls Tryz.prog 89 #[.pointer (some ⟨g,0,none⟩),.string a,.string b] W' (StR base W' g p y x (T.addAlias a b))):=fun W' hb=>taddAlias_h (h.up hb.hid) (Nat.le_trans hbase hb.hid.out.size) (hz a (by simp)) (Nat.le_trans ok.l1 hN) (Nat.le_trans ok.l2 hN) (Nat.le_trans ok.l3 hN)
 have HM:=khide h
 have HBS:=khide hbase
 have HS:Hid (∀ w',Below base W w'→w'.cell? ⟨b0,o0,none⟩=some (.string aliasK)∧w'.cell? ⟨b0,o0 + 1,none⟩=some (.string a)∧w'.cell? ⟨b0,o0 + 2,none⟩=some (.string b)):=fun w' hw=>⟨(hw.cell hb0).trans hc.1,(hw.cell hb0).trans hc.2.1,(hw.cell hb0).trans hc.2.2⟩
 have hk0:=hc.1
 have hl0:b0 < W.heap.size:=Nat.lt_of_lt_of_le hb0 hbase
 clear h ok hN hbase tb hc hb0 hz hnc
 go_enter Tryz.func50,Tryz.ntmps50
 simp only [baseK,prefixK,unitK,quantityK,aliasK] at hk0
 go_upto_region 13 with fail
 refine wp_region_held_drew (S:=fun w'=>w'.cell? ⟨b0,o0,none⟩=some (.string aliasK)∧w'.cell? ⟨b0,o0 + 1,none⟩=some (.string a)∧w'.cell? ⟨b0,o0 + 2,none⟩=some (.string b)) (by kernel_rfl) ?_ (fun hHeld=>?_)
 ·exact HS.out _ (Below.refl base W).drew
 refine tq 0 ?_
 refine tq 1 ?_
 refine tq 2 ?_
 refine tq 3 ?_
 refine tq 4 ?_
 refine tq 5 ?_
 refine tq 6 ?_
 (refine sk 7 (fun K hK=>?_);go_simp;(first | (go_at_call 89;refine (CB.out _ (Bel.refl W).dr).mono ?_;rintro e w2 hst;obtain ⟨v2,rfl⟩:=hst.ret;have HSX:=HS.out _ ((Below.refl base W).drew.trans (StR.below hst (HM.out.up (Bel.refl W).dr.hid) HBS.out))) | fail);(try (go_wp2_with fail));refine hK.out _ _ ?_ (fun hHeld=>?_);(focus ((try dsimp only);exact HSX));clear hK K;(try simp only [lay7,Act.put]))
 refine tq 8 ?_
 refine wpAnyH_done (by decide +kernel) ?_ _
 go_wp2_with fail
 go_ret
 exact hst.pre (Bel.refl W).dr
theorem trow_prefix {b0 o0 c:Nat} (h:LdM base W g p y x T) (ok:OkT N T) (hN:N≤900000) (hbase:base≤W.heap.size) (tb:Tabs W) (hc:W.cell? ⟨b0,o0,none⟩=some (.string prefixK)∧W.cell? ⟨b0,o0 + 1,none⟩=some (.string a)∧W.cell? ⟨b0,o0 + 2,none⟩=some (.string b)∧W.cell? ⟨b0,o0 + 3,none⟩=some (.string d)) (hb0:b0 < base) (hnc:4≤c) (hz:∀ s ∈ [prefixK,a,b,d],s.size≤2000000) :
 Calls Tryz.prog 50 #[.pointer (some ⟨g,0,none⟩),.slice (some ⟨b0,o0,none⟩) 4 c] W (StR base W g p y x (T.row [prefixK,a,b,d])):=by
 rw [row_prefix]
 have CB:Hid (∀ W',Bel W W'→Calls Tryz.prog 86 #[.pointer (some ⟨g,0,none⟩),.string a,.string b,.string d] W' (StR base W' g p y x (T.addPrefix a b d))):=fun W' hb=>taddPrefix_h (h.up hb.hid) ok hN (Nat.le_trans hbase hb.hid.out.size) (hz a (by simp)) (hz d (by simp)) (tb.up hb.hid)
 have HM:=khide h
 have HBS:=khide hbase
 have HS:Hid (∀ w',Below base W w'→w'.cell? ⟨b0,o0,none⟩=some (.string prefixK)∧w'.cell? ⟨b0,o0 + 1,none⟩=some (.string a)∧w'.cell? ⟨b0,o0 + 2,none⟩=some (.string b)∧w'.cell? ⟨b0,o0 + 3,none⟩=some (.string d)):=fun w' hw=>⟨(hw.cell hb0).trans hc.1,(hw.cell hb0).trans hc.2.1,(hw.cell hb0).trans hc.2.2.1,(hw.cell hb0).trans hc.2.2.2⟩
 have hk0:=hc.1
 have hl0:b0 < W.heap.size:=Nat.lt_of_lt_of_le hb0 hbase
 clear h ok hN hbase tb hc hb0 hz hnc
 go_enter Tryz.func50,Tryz.ntmps50
 simp only [baseK,prefixK,unitK,quantityK,aliasK] at hk0
 go_upto_region 7 with fail
 refine wp_region_held_drew (S:=fun w'=>w'.cell? ⟨b0,o0,none⟩=some (.string prefixK)∧w'.cell? ⟨b0,o0 + 1,none⟩=some (.string a)∧w'.cell? ⟨b0,o0 + 2,none⟩=some (.string b)∧w'.cell? ⟨b0,o0 + 3,none⟩=some (.string d)) (by kernel_rfl) ?_ (fun hHeld=>?_)
 ·exact HS.out _ (Below.refl base W).drew
 refine tq 0 ?_
 refine tq 1 ?_
 refine tq 2 ?_
 refine tq 3 ?_
 refine tq 4 ?_
 refine tq 5 ?_
 refine tq 6 ?_
 refine tq 7 ?_
 refine tq 8 ?_
 refine tq 9 ?_
 (refine sk 10 (fun K hK=>?_);go_simp;(first | (go_at_call 86;refine (CB.out _ (Bel.refl W).dr).mono ?_;rintro e w2 hst;obtain ⟨v2,rfl⟩:=hst.ret;have HSX:=HS.out _ ((Below.refl base W).drew.trans (StR.below hst (HM.out.up (Bel.refl W).dr.hid) HBS.out))) | fail);(try (go_wp2_with fail));refine hK.out _ _ ?_ (fun hHeld=>?_);(focus ((try dsimp only);exact HSX));clear hK K;(try simp only [lay7,Act.put]))
 refine tq 11 ?_
 refine wpAnyH_done (by decide +kernel) ?_ _
 go_wp2_with fail
 go_ret
 exact hst.pre (Bel.refl W).dr
theorem trow_unit4 {b0 o0 c:Nat} (h:LdM base W g p y x T) (ok:OkT N T) (hN:N≤900000) (hbase:base≤W.heap.size) (tb:Tabs W) (hc:W.cell? ⟨b0,o0,none⟩=some (.string unitK)∧W.cell? ⟨b0,o0 + 1,none⟩=some (.string a)∧W.cell? ⟨b0,o0 + 2,none⟩=some (.string b)∧W.cell? ⟨b0,o0 + 3,none⟩=some (.string d)) (hb0:b0 < base) (hnc:4≤c) (hz:∀ s ∈ [unitK,a,b,d],s.size≤2000000) :
 Calls Tryz.prog 50 #[.pointer (some ⟨g,0,none⟩),.slice (some ⟨b0,o0,none⟩) 4 c] W (StR base W g p y x (T.row [unitK,a,b,d])):=by
 rw [row_unit4]
 have CB:Hid (∀ W',Bel W W' → ∀ (AO:Option Addr) (cO:Nat),Calls Tryz.prog 87 #[.pointer (some ⟨g,0,none⟩),.string a,.string b,.string d,.slice AO 0 cO] W' (StR base W' g p y x (T.addUnit a b d []))):=fun W' hb=>fun AO cO=>taddUnit_h (h.up hb.hid) ok hN (Nat.le_trans hbase hb.hid.out.size) (hz a (by simp)) (hz d (by simp)) RS.nil rfl
 have HM:=khide h
 have HBS:=khide hbase
 have HS:Hid (∀ w',Below base W w'→w'.cell? ⟨b0,o0,none⟩=some (.string unitK)∧w'.cell? ⟨b0,o0 + 1,none⟩=some (.string a)∧w'.cell? ⟨b0,o0 + 2,none⟩=some (.string b)∧w'.cell? ⟨b0,o0 + 3,none⟩=some (.string d)):=fun w' hw=>⟨(hw.cell hb0).trans hc.1,(hw.cell hb0).trans hc.2.1,(hw.cell hb0).trans hc.2.2.1,(hw.cell hb0).trans hc.2.2.2⟩
 have hk0:=hc.1
 have hl0:b0 < W.heap.size:=Nat.lt_of_lt_of_le hb0 hbase
 clear h ok hN hbase tb hc hb0 hz
 by_cases hc4:c=4
 all_goals
  go_enter Tryz.func50,Tryz.ntmps50
  simp only [baseK,prefixK,unitK,quantityK,aliasK] at hk0
  go_upto_region 9 with fail
  refine wp_region_held_drew (S:=fun w'=>w'.cell? ⟨b0,o0,none⟩=some (.string unitK)∧w'.cell? ⟨b0,o0 + 1,none⟩=some (.string a)∧w'.cell? ⟨b0,o0 + 2,none⟩=some (.string b)∧w'.cell? ⟨b0,o0 + 3,none⟩=some (.string d)) (by kernel_rfl) ?_ (fun hHeld=>?_)
  ·exact HS.out _ (Below.refl base W).drew
  refine tq 0 ?_
  refine tq 1 ?_
  refine tq 2 ?_
  refine tq 3 ?_
  refine tq 4 ?_
  refine tq 5 ?_
  refine tq 6 ?_
  refine tq 7 ?_
  refine tq 8 ?_
  refine tq 9 ?_
  refine tq 10 ?_
  refine tq 11 ?_
  (refine sk 12 (fun K hK=>?_);go_simp;(first | (go_at_call 87;refine (CB.out _ (Bel.refl W).dr _ _).mono ?_;rintro e w2 hst;obtain ⟨v2,rfl⟩:=hst.ret;have HSX:=HS.out _ ((Below.refl base W).drew.trans (StR.below hst (HM.out.up (Bel.refl W).dr.hid) HBS.out))) | fail);(try (go_wp2_with fail));refine hK.out _ _ ?_ (fun hHeld=>?_);(focus ((try dsimp only);exact HSX));clear hK K;(try simp only [lay7,Act.put]))
  refine tq 13 ?_
  refine wpAnyH_done (by decide +kernel) ?_ _
  go_wp2_with fail
  go_ret
  exact hst.pre (Bel.refl W).dr
theorem trow_unit5 {b0 o0 c:Nat} (h:LdM base W g p y x T) (ok:OkT N T) (hN:N≤900000) (hbase:base≤W.heap.size) (tb:Tabs W) (hc:W.cell? ⟨b0,o0,none⟩=some (.string unitK)∧W.cell? ⟨b0,o0 + 1,none⟩=some (.string a)∧W.cell? ⟨b0,o0 + 2,none⟩=some (.string b)∧W.cell? ⟨b0,o0 + 3,none⟩=some (.string d)∧W.cell? ⟨b0,o0 + 4,none⟩=some (.string f)) (hb0:b0 < base) (hnc:5≤c) (hz:∀ s ∈ [unitK,a,b,d,f],s.size≤2000000) :
 Calls Tryz.prog 50 #[.pointer (some ⟨g,0,none⟩),.slice (some ⟨b0,o0,none⟩) 5 c] W (StR base W g p y x (T.row [unitK,a,b,d,f])):=by
 rw [row_unit5]
 have CB:Hid (∀ W',Bel W W' → ∀ (cO:Nat),Calls Tryz.prog 87 #[.pointer (some ⟨g,0,none⟩),.string a,.string b,.string d,.slice (some ⟨b0,o0 + 4,none⟩) 1 cO] W' (StR base W' g p y x (T.addUnit a b d [f]))):=fun W' hb=>fun cO=>taddUnit_h (h.up hb.hid) ok hN (Nat.le_trans hbase hb.hid.out.size) (hz a (by simp)) (hz d (by simp)) (ss_five ((Below.cell hb.hid.out (Nat.lt_of_lt_of_le hb0 hbase)).trans hc.2.2.2.2) (Nat.lt_of_lt_of_le (Nat.lt_of_lt_of_le hb0 hbase) hb.hid.out.size)) rfl
 have HM:=khide h
 have HBS:=khide hbase
 have HS:Hid (∀ w',Below base W w'→w'.cell? ⟨b0,o0,none⟩=some (.string unitK)∧w'.cell? ⟨b0,o0 + 1,none⟩=some (.string a)∧w'.cell? ⟨b0,o0 + 2,none⟩=some (.string b)∧w'.cell? ⟨b0,o0 + 3,none⟩=some (.string d)∧w'.cell? ⟨b0,o0 + 4,none⟩=some (.string f)):=fun w' hw=>⟨(hw.cell hb0).trans hc.1,(hw.cell hb0).trans hc.2.1,(hw.cell hb0).trans hc.2.2.1,(hw.cell hb0).trans hc.2.2.2.1,(hw.cell hb0).trans hc.2.2.2.2⟩
 have hk0:=hc.1
 have hl0:b0 < W.heap.size:=Nat.lt_of_lt_of_le hb0 hbase
 have hc4:¬ c=4:=by omega
 clear h ok hN hbase tb hc hb0 hz
 go_enter Tryz.func50,Tryz.ntmps50
 simp only [baseK,prefixK,unitK,quantityK,aliasK] at hk0
 go_upto_region 9 with fail
 refine wp_region_held_drew (S:=fun w'=>w'.cell? ⟨b0,o0,none⟩=some (.string unitK)∧w'.cell? ⟨b0,o0 + 1,none⟩=some (.string a)∧w'.cell? ⟨b0,o0 + 2,none⟩=some (.string b)∧w'.cell? ⟨b0,o0 + 3,none⟩=some (.string d)∧w'.cell? ⟨b0,o0 + 4,none⟩=some (.string f)) (by kernel_rfl) ?_ (fun hHeld=>?_)
 ·exact HS.out _ (Below.refl base W).drew
 refine tq 0 ?_
 refine tq 1 ?_
 refine tq 2 ?_
 refine tq 3 ?_
 refine tq 4 ?_
 refine tq 5 ?_
 refine tq 6 ?_
 refine tq 7 ?_
 refine tq 8 ?_
 refine tq 9 ?_
 refine tq 10 ?_
 refine tq 11 ?_
 (refine sk 12 (fun K hK=>?_);go_simp;(first | (go_at_call 87;refine (CB.out _ (Bel.refl W).dr _).mono ?_;rintro e w2 hst;obtain ⟨v2,rfl⟩:=hst.ret;have HSX:=HS.out _ ((Below.refl base W).drew.trans (StR.below hst (HM.out.up (Bel.refl W).dr.hid) HBS.out))) | fail);(try (go_wp2_with fail));refine hK.out _ _ ?_ (fun hHeld=>?_);(focus ((try dsimp only);exact HSX));clear hK K;(try simp only [lay7,Act.put]))
 refine tq 13 ?_
 refine wpAnyH_done (by decide +kernel) ?_ _
 go_wp2_with fail
 go_ret
 exact hst.pre (Bel.refl W).dr
end
end Go.Proofs.YtfflmmbhpchloaaGreatDoor
end
