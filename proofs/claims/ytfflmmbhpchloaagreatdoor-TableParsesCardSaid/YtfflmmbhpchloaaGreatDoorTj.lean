/- Each theorem here says its own conditions. -/
import Derived.Test.YtfflmmbhpchloaaGreatDoorGTpwc30
set_option maxRecDepth 100000
set_option maxHeartbeats 16000000
section
open Go.RowKit
open Go.Proofs.YtfflmmbhpchloaaGreatDoor.V
namespace Go.Proofs.YtfflmmbhpchloaaGreatDoor
section
variable {base p g y:Nat} {W W':World} {x:TPl} {T:Tb} {s:ByteArray} {e:Ent} {b b2 b3:Bool} {A A' B B' F F':Option Addr} {n c n' c' m d m' d' k f k' f':Nat}
theorem at_nth {W:World} {p:Nat} {vs:List Value} {v:Value} (h:At W p vs) (i:Nat) (hi:vs[i]? = some v):W.cell? ⟨p,i,none⟩=some v:=(h.all i v hi).1
theorem sub1 {p:Nat} {l:List Nat}:∀ k ∈ l ++ [p],k ∈ p :: l:=by
 intro k hk
 rcases List.mem_append.1 hk with h | h
 ·exact List.mem_cons_of_mem _ h
 ·rw [List.mem_singleton.1 h];exact List.mem_cons_self
theorem wp_append_str {W:World} {o:Oper} {a:Act} {K:Act→World→Prop} {Q:Exit→Act→World→Prop} (s x:Operand) (t:TypeId)
 (ho:o.op = .call { callee:=.builtin .append,args:=#[s,x],argTypes:=#[t,t] }) (ht:Tryz.prog.underlying t=some (.slice 9)) (base:Nat) (v:Value) (xs:List ByteArray) (hs:a.eval s=v) (h:Row W base v xs)
 (q:Nat) (y:ByteArray) (hx:a.eval x = .slice (some ⟨q,0,none⟩) 1 1) (hy:W.cell? ⟨q,0,none⟩=some (.string y)) (hl:xs.length + 1≤1000000) (hb:base≤W.heap.size)
 (hk:∀ v' W',Row W' base v' (xs ++ [y])→W.grownBy W' v.ownBlock→(v'.ownBlock=v.ownBlock ∨ ∃ g,v'.ownBlock=some g∧W.heap.size≤g)→KU W W'→K (a.put o.dst v') W'):o.wp Tryz.prog a W K Q:=by
 obtain ⟨v',W',hr,h2,h3,h4,h5⟩:=run_append_str (v:=v) h t o.type ht hy hl hb
 unfold Oper.wp execOp
 simp only [ho,resolve,invoke,builtin,Sem.run_bind,Sem.run_pure,Result.andThen_ok,List.map_toArray,List.map_cons,List.map_nil,hs,hx,hr]
 exact hk _ _ h2 h3 h4 h5
theorem tput_h (h:LdM base W g p y x T) (hbase:base≤W.heap.size) (hn:lookL T.ents s=none) (hs:s.size≤2000000) (hl:T.ents.length≤900000) (q1:QA W b A n c A' n' c' e.fac 101) (q2:QA W b2 B m d B' m' d' e.off 101) (q3:QA W b3 F k f F' k' f' e.full 11) :
 Calls Tryz.prog 122 #[.pointer (some ⟨g,0,none⟩),.agg #[.string s,.string e.id,.int .i64 e.base,.bool b,.slice A n c,.slice A' n' c',.bool b2,.slice B m d,.slice B' m' d',.bool e.has],.agg #[.int .i64 e.vec.x0,.int .i64 e.vec.x1,.int .i64 e.vec.x2,.int .i64 e.vec.x3,.int .i64 e.vec.x4,.int .i64 e.vec.x5,.int .i64 e.vec.x6,.int .i64 e.vec.x7],.agg #[.bool b3,.slice F k f,.slice F' k' f']] W fun r w'=>(∃ v,r = .returned v)∧Stp base W g p y x { T with ents:=T.ents ++ [(s,e)] } w':=by
 obtain ⟨N1,cp1,ev1,_⟩:=h.tab.row1.form
 have hlen:T.names.length=T.ents.length:=by simp [Tb.names]
 rw [hlen] at ev1
 obtain ⟨nn,hnn⟩:∃ nn,nn=T.ents.length:=⟨_,rfl⟩
 rw [← hnn] at ev1 hl
 have HNN:=khide hnn
 have HAP:=khide h.apart
 have HALL:=khide h.all_lt
 have HL:=khide h
 have HN:=khide hn
 have HS:=khide hs
 have HBS:=khide hbase
 have HQ1:=khide q1
 have HQ2:=khide q2
 have HQ3:=khide q3
 have HV1:=khide ev1
 have HLE:=khide hl
 have R1:=h.tab.row1
 rw [ev1] at R1
 have HR1:=khide R1
 obtain ⟨l1,m1,r1⟩:=h.tab.ents
 obtain ⟨l2,m2,r2⟩:=h.facs
 have HM1:=khide m1
 have HM2:=khide m2
 have HRl1:=khide r1
 have HRl2:=khide r2
 obtain ⟨bb1,hbb1⟩:∃ z,z=x.b1:=⟨_,rfl⟩
 have HBB1:=khide hbb1
 have HB1:Hid (Below W.heap.size W (((W.alloc (.cells #[.string s,.string e.id,.int .i64 e.base,.bool b,.slice A n c,.slice A' n' c',.bool b2,.slice B m d,.slice B' m' d',.bool e.has] 55)).alloc (.cells #[.int .i64 e.vec.x0,.int .i64 e.vec.x1,.int .i64 e.vec.x2,.int .i64 e.vec.x3,.int .i64 e.vec.x4,.int .i64 e.vec.x5,.int .i64 e.vec.x6,.int .i64 e.vec.x7] 36)).alloc (.cells #[.bool b3,.slice F k f,.slice F' k' f'] 51))):=Bel.hid ((((Bel.refl W).al _).al _).al _)
 clear h hn hs q1 q2 q3 ev1 hl R1 m1 m2 r1 r2 hnn hlen hbb1 hbase
 go_enter Tryz.func122,Tryz.ntmps122
 go_upto_region 1 with (fail)
 rename_i KK hnext
 refine kwp_named ?_
 intro w1 hw1
 have HE:At w1 W.heap.size [.string s,.string e.id,.int .i64 e.base,.bool b,.slice A n c,.slice A' n' c',.bool b2,.slice B m d,.slice B' m' d',.bool e.has]:=by rw [hw1];exact ((at_new0 _ _ _).al _).al _
 have HV:At w1 (W.heap.size + 1) [.int .i64 e.vec.x0,.int .i64 e.vec.x1,.int .i64 e.vec.x2,.int .i64 e.vec.x3,.int .i64 e.vec.x4,.int .i64 e.vec.x5,.int .i64 e.vec.x6,.int .i64 e.vec.x7]:=by rw [hw1];exact (at_new1 _ _ _ _).al _
 have HF:At w1 (W.heap.size + 1 + 1) [.bool b3,.slice F k f,.slice F' k' f']:=by rw [hw1];exact at_new2 _ _ _ _ _
 rw [← hw1] at HB1
 clear hw1
 obtain ⟨q0,hq0⟩:∃ q,q=W.heap.size:=⟨_,rfl⟩
 rw [← hq0] at HE HV HF ⊢
 have HQ0:=khide hq0
 clear hq0
 have HL1:=khide (HL.out.up HB1)
 have HO1:=khide (HR1.out.up HB1)
 have HS1:Hid (base≤w1.heap.size):=Nat.le_trans HBS.out HB1.out.size
 have g0:=HL1.out.c0;have gl:=HL1.out.lt
 have t0:=HL1.out.tab.c0;have tf:=HL1.out.tab.fi 0;have tl:=HL1.out.tab.lt
 rw [HV1.out] at t0
 have e0:=HE.c0;have el:=HE.lt
 have HRG:Hid (∀ k,k ∉ x.rows→k ∉ (Value.slice N1 nn cp1).ownBlock.toList):=fun k hk hm=>hk (TPl.row1 (by rw [HV1.out];simpa using hm))
 have HGP:Hid (g ∉ x.rows∧q0 ∉ x.rows∧p ∉ x.rows):=⟨HAP.out.rg.1,fun hm=>by have h1:=(HALL.out q0 (by unfold TPl.all;simp [hm])).2;have h2:=HQ0.out;omega,HAP.out.rg.2.1⟩
 have HGP2:Hid (p ≠ g∧p ≠ q0):=⟨fun e=>HAP.out.gp e.symm,fun e=>by have h1:=(HALL.out p (by unfold TPl.all;simp)).2;have h2:=HQ0.out;omega⟩
 refine wp_region_held_drew (S:=fun w'=>w'.cell? ⟨g,0,none⟩=some (.pointer (some ⟨p,0,none⟩))∧w'.cell? ⟨q0,0,none⟩=some (.string s)) (by kernel_rfl) ⟨HL1.out.dr.c0,HE.dr.c0⟩ (fun hHeld=>?_)
 refine tq 0 ?_
 refine tq 1 ?_
 refine tq 2 ?_
 refine tq 3 ?_
 refine tq 4 ?_
 refine tq 5 ?_
 refine tq 6 ?_
 refine tq 7 ?_
 refine tq 8 ?_
 refine tq 9 ?_
 refine tq 11 ?_
 refine tq 12 ?_
 refine wpAnyH_ready (rs:=[10,13]) (by decide +kernel) (by simp) ?_
 refine AllReadyH.cons rfl (fun K hK=>?_) (AllReadyH.cons rfl (fun K hK=>?_) AllReadyH.nil)
 all_goals (first | (go_simp;refine hK.out _ _ ?_ (fun hHeld=>?_);(focus ((try dsimp only);exact ⟨HL1.out.dr.c0,HE.dr.c0⟩));clear hK K;(try simp only [lay7,Act.put]);(refine sk 13 (fun K hK=>?_);go_simp;refine hK.out _ _ ?_ (fun hHeld=>?_);(focus ((try dsimp only);exact ⟨(HL1.out.dr.al _).c0,(HE.dr.al _).c0⟩));clear hK K;(try simp only [lay7,Act.put]))) | (go_simp;refine hK.out _ _ ?_ (fun hHeld=>?_);(focus ((try dsimp only);exact ⟨(HL1.out.dr.al _).c0,(HE.dr.al _).c0⟩));clear hK K;(try simp only [lay7,Act.put]);(refine sk 10 (fun K hK=>?_);go_simp;refine hK.out _ _ ?_ (fun hHeld=>?_);(focus ((try dsimp only);exact ⟨(HL1.out.dr.al _).c0,(HE.dr.al _).c0⟩));clear hK K;(try simp only [lay7,Act.put]))))
 all_goals
  refine wpAnyH_ready (rs:=[14]) (by decide +kernel) (by simp) ?_
  refine AllReadyH.cons rfl (fun K hK=>?_) AllReadyH.nil
  refine if_plain rfl ?_
  refine wp_append_str _ _ 60 (by rfl) Tryz.underlying60 base _ T.names (by rfl) (HO1.out.up ((Below.refl _ _).drew.alloc (Nat.le_refl _) _)) w1.heap.size s (by rfl) (at_new0 w1.drew _ _).c0 (by have h1:=HNN.out;have h2:=HLE.out;simp [Tb.names];omega) (Nat.le_trans HS1.out (Nat.le_of_lt (heap_lt w1.drew _))) ?_
  intro v1 w3 ho3 hg3 hloc3 hku3
  obtain ⟨A1,cap1,rfl⟩:∃ A1 cap1,v1 = .slice A1 (nn + 1) cap1:=by
   obtain ⟨A1,c1,e1,_⟩:=ho3.form
   exact ⟨A1,c1,by rw [e1,HNN.out];simp [Tb.names]⟩
  have T13:Hid (Turn (Value.slice N1 nn cp1).ownBlock.toList w1 w3):=((Turn.of (Bel.hid (((Bel.refl w1).dr).al _))).trans (Turn.grown hg3)).mono (by simp)
  have hgc:w3.heap[g]? = w1.heap[g]?:=T13.out.block g gl (HRG.out g HGP.out.1)
  have hqc:w3.heap[q0]? = w1.heap[q0]?:=T13.out.block q0 el (HRG.out q0 HGP.out.2.1)
  have hpc:w3.heap[p]? = w1.heap[p]?:=T13.out.block p tl (HRG.out p HGP.out.2.2)
  have c3:∀ {b:Nat} (_:w3.heap[b]? = w1.heap[b]?) (i:Nat),w3.cell? ⟨b,i,none⟩=w1.cell? ⟨b,i,none⟩:=fun hh i=>by unfold World.cell?;rw [hh]
  have t3:=(c3 hpc 0).trans t0
  have tf3:w3.frozen? ⟨p,0,none⟩=false:=by unfold World.frozen? at tf ⊢;rw [hpc];exact tf
  have tl3:p < w3.heap.size:=Nat.lt_of_lt_of_le tl T13.out.size
  refine hK.out _ _ ⟨(c3 hgc 0).trans g0,(c3 hqc 0).trans e0⟩ (fun hHeld=>?_)
  clear hK K
  (try simp only [lay7,Act.put])
  refine tq 15 ?_
  refine tq 16 ?_
  (refine sk 17 (fun K hK=>?_);go_simp;refine hK.out _ _ ?_ (fun hHeld=>?_);(focus ((try dsimp only);exact ⟨(World.cell?_setCell_other _ _ _ _ (fun e=>HGP2.out.1 (congrArg Addr.block e))).trans hHeld.1,(World.cell?_setCell_other _ _ _ _ (fun e=>HGP2.out.2 (congrArg Addr.block e))).trans hHeld.2⟩));clear hK K;(try simp only [lay7,Act.put]))
  refine wpAnyH_done (by decide +kernel) ?_ _
  refine name_at ?_
  intro w4 hw4
  have T14:Hid (Turn (p :: (Value.slice N1 nn cp1).ownBlock.toList) w1 w4):=by rw [hw4];exact (T13.out.trans (Turn.set w3 ⟨p,0,none⟩ _)).mono sub1
  have K4:Hid (KU W w4):=by
   rw [hw4]
   exact ((KU.below HB1).trans ((KU.below (Bel.hid (((Bel.refl w1).dr).al _))).trans hku3)).trans (KU.set t3 (fun x e=>by cases e))
  have B4:Hid (w4.heap[p]? = some (.cells #[.slice A1 (nn + 1) cap1,x.v2,.map (some x.b1),.map (some x.b2),.map (some x.b3),.pointer (some ⟨x.p2,0,none⟩)] 89 (0,0))):=by
   have h1:=hpc.trans HL1.out.tab.blk
   rw [hw4]
   simp [Hid,World.setCell,Array.getElem?_modify,h1]
  have hne3:(Value.slice A1 (nn + 1) cap1).ownBlock ≠ some p:=own_ne_cells ho3.own (hpc.trans HL1.out.tab.blk) (by decide)
  have R4:Hid (Row w4 base (.slice A1 (nn + 1) cap1) (T.names ++ [s])):=by
   rw [hw4]
   exact ho3.turn (Turn.set _ _ _) (fun g hg=>by intro h5;rw [List.mem_singleton.1 h5] at hg;exact hne3 hg)
  have HLC:=khide hloc3
  have HS4:Hid (W.heap.size≤w1.heap.size):=HB1.out.size
  clear hw4 hne3 t3 tf3 tl3 c3 hgc hqc hpc ho3 hg3 hloc3 hku3 hHeld T13 g0 gl t0 tf tl e0 el
  have HNR:Hid (∀ k,W.heap.size≤k→k ∉ p :: (Value.slice N1 nn cp1).ownBlock.toList):=fun k hk hm=>by
   have h1:=(HALL.out k (by
    rcases List.mem_cons.1 hm with rfl | hm
    ·unfold TPl.all;simp
    ·have:=TPl.row1 (x:=x) (r:=k) (by rw [HV1.out];simpa using hm)
     unfold TPl.all;simp [this])).2
   omega
  have HNM:Hid (∀ k,k ≠ p→k ∉ x.rows→k ∉ p :: (Value.slice N1 nn cp1).ownBlock.toList):=fun k h1 h2 hm=>by
   rcases List.mem_cons.1 hm with hm | hm
   ·exact h1 hm
   ·exact HRG.out k h2 hm
  have T4:Hid (Turn (p :: (Value.slice N1 nn cp1).ownBlock.toList) W w4):=((Turn.of HB1).trans T14.out).mono (by simp)
  have HM:=khide HAP.out.mg
  have E4:=HE.turn T14.out (HNR.out _ (by have:=HQ0.out;omega))
  have V4:=HV.turn T14.out (HNR.out _ (by have:=HQ0.out;omega))
  have F4:=HF.turn T14.out (HNR.out _ (by have:=HQ0.out;omega))
  have G4:Hid (w4.heap[g]? = some (.cells #[.pointer (some ⟨p,0,none⟩),.int .i64 (T.bases:Int),.map (some y)] 124 (0,0))):=(T4.out.block g HL.out.lt (HNM.out g HAP.out.gp HAP.out.rg.1)).trans HL.out.blk
  have g0:w4.cell? ⟨g,0,none⟩=some (.pointer (some ⟨p,0,none⟩)):=by rw [cell_of_row _ _ 0 _ _ (0,0) G4.out];rfl
  have t2:w4.cell? ⟨p,2,none⟩=some (.map (some x.b1)):=by rw [cell_of_row _ _ 2 _ _ (0,0) B4.out];rfl
  have gl:g < w4.heap.size:=(Array.getElem?_eq_some_iff.1 G4.out).1
  have tl:p < w4.heap.size:=(Array.getElem?_eq_some_iff.1 B4.out).1
  have hd4:MapV w4.drew x.b1 l1:=(HM1.out.turn T4.out (HNM.out _ (HM.out _ (by simp)).2.1 (HM.out _ (by simp)).2.2.2)).up ((Below.refl _ _).drew)
  have e0:=E4.c0;have e1:=E4.c1;have e2:=E4.c2;have e3:=at_nth E4 3 rfl;have e4:=at_nth E4 4 rfl;have e5:=at_nth E4 5 rfl;have e6:=at_nth E4 6 rfl;have e7:=at_nth E4 7 rfl
  have e8:=at_nth E4 8 rfl;have e9:=at_nth E4 9 rfl;have el:=E4.lt
  obtain ⟨a0,a1,a2,a3,a4,a5,a6,a7⟩:=V4.v8
  have al:=V4.lt
  obtain ⟨w5,hr5,hm5,hg5⟩:=hd4.put (v:=.agg #[.string s,.string e.id,.int .i64 e.base,.bool b,.slice A n c,.slice A' n' c',.bool b2,.slice B m d,.slice B' m' d',.bool e.has,.int .i64 e.vec.x0,.int .i64 e.vec.x1,.int .i64 e.vec.x2,.int .i64 e.vec.x3,.int .i64 e.vec.x4,.int .i64 e.vec.x5,.int .i64 e.vec.x6,.int .i64 e.vec.x7]) Tryz.underlying84 HS.out (by have h1:=HRl1.out.len;have h2:=HNN.out;have h3:=HLE.out;omega) (HRl1.out.no s HN.out)
  have HD4:=khide hd4
  clear hd4
  refine hnext _ _ ?_
  go_wp2_with fail
  go_still_tail 12,(by kernel_rfl)
  go_wp2_with fail
  have T5:Hid (Turn [x.b1] w4 w5):=((Turn.of ((Below.refl _ w4).drew)).trans (Turn.grown hg5)).mono (by simp)
  have K5:Hid (KU w4 w5):=(KU.below ((Below.refl _ w4).drew)).trans (KU.map hg5 HD4.out)
  have HM5:=khide hm5
  have ML:=khide (HM.out x.b1 (by simp))
  have HB1L:Hid (x.b1 < W.heap.size):=HM1.out.lt
  have E5:=E4.turn T5.out (by have h1:=HB1L.out;have h2:=HQ0.out;simp;omega)
  have F5:=F4.turn T5.out (by have h1:=HB1L.out;have h2:=HQ0.out;simp;omega)
  have G5:=khide ((T5.out.block g gl (by simpa using ML.out.1.symm)).trans G4.out)
  clear g0 t2 gl tl e0 e1 e2 e3 e4 e5 e6 e7 e8 e9 el a0 a1 a2 a3 a4 a5 a6 a7 al hr5 hm5 hg5
  have g2:w5.cell? ⟨g,2,none⟩=some (.map (some y)):=by rw [cell_of_row _ _ 2 _ _ (0,0) G5.out];rfl
  have gl:g < w5.heap.size:=(Array.getElem?_eq_some_iff.1 G5.out).1
  have e0:=E5.c0;have el:=E5.lt
  have f0:=F5.c0;have f1:=F5.c1;have f2:=F5.c2;have fl:=F5.lt
  have hd5:MapV w5.drew y l2:=((HM2.out.turn T4.out (HNM.out _ (HM.out _ (by simp)).2.1 (HM.out _ (by simp)).2.2.2)).turn T5.out (by have h1:=HL.out.nd;simp at h1;simp;exact h1.1)).up ((Below.refl _ _).drew)
  obtain ⟨w6,hr6,hm6,hg6⟩:=hd5.put (v:=.agg #[.bool b3,.slice F k f,.slice F' k' f']) Tryz.underlying85 HS.out (by have h1:=HRl2.out.len;have h2:=HNN.out;have h3:=HLE.out;omega) (HRl2.out.no s HN.out)
  have HD5:=khide hd5
  clear hd5
  go_still_tail 7,(by kernel_rfl)
  go_wp2_with fail
  have T6:Hid (Turn [y] w5 w6):=((Turn.of ((Below.refl _ w5).drew)).trans (Turn.grown hg6)).mono (by simp)
  have K6:Hid (KU w5 w6):=(KU.below ((Below.refl _ w5).drew)).trans (KU.map hg6 HD5.out)
  have KK6:Hid (KU W w6):=(K4.out.trans K5.out).trans K6.out
  have HM6:=khide hm6
  have TT6:Hid (Turn ((p :: x.v1.ownBlock.toList ++ [x.b1]) ++ [y]) W w6):=by rw [HV1.out];exact ((T4.out.trans T5.out).trans T6.out)
  have YN:Hid (x.b1 ≠ y):=fun e1=>by have h1:=HL.out.nd;simp at h1;exact h1.1 e1.symm
  have MY:=khide (HM.out y (by simp))
  clear g2 gl e0 el f0 f1 f2 fl hr6 hm6 hg6
  refine ⟨rfl,.tuple #[],by first | (simp [results,Tryz.results122,go_sem];done) | kernel_rfl,?_⟩
  refine ⟨⟨_,rfl⟩,put_end HL.out TT6.out KK6.out (v':=.slice A1 (nn + 1) cap1) ?_ ?_ ?_ ?_ ?_⟩
  ·exact (T6.out.block p (Nat.lt_of_lt_of_le (Array.getElem?_eq_some_iff.1 B4.out).1 T5.out.size) (by simpa using MY.out.2.1.symm)).trans ((T5.out.block p (Array.getElem?_eq_some_iff.1 B4.out).1 (by simpa using ML.out.2.1.symm)).trans B4.out)
  ·have R5:Row w5 base (.slice A1 (nn + 1) cap1) (T.names ++ [s]):=R4.out.turn T5.out (fun k hk hm=>by
    obtain ⟨_,cs,h1⟩:=row_at R4.out hk
    rw [List.mem_singleton.1 hm] at h1
    exact HD4.out.not_cells (show w4.drew.heap[x.b1]? = _ from h1))
   exact R5.turn T6.out (fun k hk hm=>by
    obtain ⟨_,cs,h1⟩:=row_at R5 hk
    rw [List.mem_singleton.1 hm] at h1
    exact HD5.out.not_cells (show w5.drew.heap[y]? = _ from h1))
  ·rw [HV1.out];exact HLC.out.imp id (fun ⟨k,h1,h2⟩=>⟨k,h1,Nat.le_trans HS4.out (Nat.le_trans (Nat.le_of_lt (heap_lt w1 (.cells #[.string s] 9))) h2)⟩)
  ·exact ⟨_,HM5.out.turn T6.out (by simpa using YN.out),(HRl1.out.mono fun s e v hv=>hv.ku KK6.out).more HN.out ⟨_,_,_,_,_,_,_,_,_,_,_,_,_,_,rfl,HQ1.out.ku KK6.out,HQ2.out.ku KK6.out⟩⟩
  ·exact ⟨_,HM6.out,(HRl2.out.mono fun s e v hv=>hv.ku KK6.out).more HN.out ⟨_,_,_,_,_,_,_,rfl,HQ3.out.ku KK6.out⟩⟩
end
end Go.Proofs.YtfflmmbhpchloaaGreatDoor
end
