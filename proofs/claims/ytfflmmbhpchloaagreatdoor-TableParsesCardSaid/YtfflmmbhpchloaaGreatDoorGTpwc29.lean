/- Each theorem here says its own conditions. -/
import Derived.Test.YtfflmmbhpchloaaGreatDoorGTpwc28
set_option maxRecDepth 100000
set_option maxHeartbeats 16000000
section
open Go.RowKit Go.Shelf
open Go.Proofs.YtfflmmbhpchloaaGreatDoor.V
namespace Go.Proofs.YtfflmmbhpchloaaGreatDoor
attribute [local go_sem] Oper.semAt_some
abbrev eV (nm id:ByteArray) (ba:Int) (s1:Bool) (A1:Option Addr) (n1 c1:Nat) (A2:Option Addr) (n2 c2:Nat) (s2:Bool) (B1:Option Addr) (m1 d1:Nat) (B2:Option Addr) (m2 d2:Nat) (ho:Bool):Value :=
 .agg #[.string nm,.string id,.int .i64 ba,.bool s1,.slice A1 n1 c1,.slice A2 n2 c2,.bool s2,.slice B1 m1 d1,.slice B2 m2 d2,.bool ho]
section
variable {nm id:ByteArray} {ba:Int} {s1:Bool} {A1:Option Addr} {n1 c1:Nat} {A2:Option Addr} {n2 c2:Nat} {s2:Bool} {B1:Option Addr} {m1 d1:Nat} {B2:Option Addr} {m2 d2:Nat} {ho:Bool} {v:V8}
theorem field_entry (w:World):(Instr.field 98 (mV nm id ba s1 A1 n1 c1 A2 n2 c2 s2 B1 m1 d1 B2 m2 d2 ho v) 0).run Tryz.prog w = .ok (eV nm id ba s1 A1 n1 c1 A2 n2 c2 s2 B1 m1 d1 B2 m2 d2 ho) w:=by kernel_rfl
theorem field_has (w:World):(Instr.field 55 (eV nm id ba s1 A1 n1 c1 A2 n2 c2 s2 B1 m1 d1 B2 m2 d2 ho) 5).run Tryz.prog w = .ok (.bool ho) w:=by kernel_rfl
end
section
variable {base p:Nat} {W W':World} {x:TPl} {T:Tb} {A1 A2 A3:Option Addr} {n1 c1 n2 c2 n3 c3:Nat} {l l':List AL}
structure OBox (q0 q2 q5 p:Nat) (A1:Option Addr) (n1 c1:Nat) (A2:Option Addr) (n2 c2:Nat) (A3:Option Addr) (n3 c3:Nat) (V:World):Prop where
 b0:At V q0 [.pointer (some ⟨p,0,none⟩)]
 b2:At V q2 [.bool false]
 b5:At V q5 [.slice A1 n1 c1,.slice A2 n2 c2,.slice A3 n3 c3]
section
variable {q0 q2 q5:Nat} {V V':World}
theorem OBox.own {d:Nat} {row:Option Nat} (h:OBox q0 q2 q5 p A1 n1 c1 A2 n2 c2 A3 n3 c3 V) (hg:V.grownBy V' row) (hd:q0 < d∧q2 < d∧q5 < d) (hr:∀ r,row=some r→d≤r):OBox q0 q2 q5 p A1 n1 c1 A2 n2 c2 A3 n3 c3 V' :=
 ⟨h.b0.own hg (fun r e=>by have:=hr r e;omega),h.b2.own hg (fun r e=>by have:=hr r e;omega),h.b5.own hg (fun r e=>by have:=hr r e;omega)⟩
theorem OBox.up (h:OBox q0 q2 q5 p A1 n1 c1 A2 n2 c2 A3 n3 c3 V) (hb:Hid (Below V.heap.size V V')):OBox q0 q2 q5 p A1 n1 c1 A2 n2 c2 A3 n3 c3 V':=⟨h.b0.up hb,h.b2.up hb,h.b5.up hb⟩
end
theorem toffs_h (h:TabM base W p x T) (hp:PtR W A1 n1 A2 n2 l l'):Calls Tryz.prog 183 #[.pointer (some ⟨p,0,none⟩),.agg #[.slice A1 n1 c1,.slice A2 n2 c2,.slice A3 n3 c3]] W (RetB W (T.offs (l,l'))):=by
 refine (callsIn_wide (n:=9)).1 ?_
 obtain ⟨res,hres⟩:∃ r,T.offs (l,l')=r:=⟨_,rfl⟩
 rw [hres]
 have HRS0:=khide hres
 clear hres
 have CS:=khide (sgn_call 8)
 have HT:=khide h
 have HP:=khide hp
 refine callsIn_of_wp_marks Tryz.func183 rfl trivial ?_ rfl
 simp only [Tryz.ntmps183,List.size_toArray,List.length_cons,List.length_nil,Nat.reduceAdd,Nat.reduceSub,Array.replicate_succ,Array.replicate_zero,List.push_toArray,List.append_toArray,List.nil_append,List.cons_append]
 clear h hp
 gi_wp2_with (refine ⟨trivial,?_⟩;gi_at_call 32;refine (CS.out _ _ _ _ _ _ _ _ _ _).mono ?_;rintro e w' ⟨rfl,hw⟩;rw [hw];clear hw)
 obtain ⟨W0,hW0⟩:∃ X,X=(((W.alloc (.cells #[.pointer (some ⟨p,0,none⟩)] 26)).alloc (.cells #[.slice A1 n1 c1,.slice A2 n2 c2,.slice A3 n3 c3] 44)).alloc (.cells #[.bool false] 4)).alloc (.cells #[.slice A1 n1 c1,.slice A2 n2 c2,.slice A3 n3 c3] 44):=⟨_,rfl⟩
 rw [← hW0]
 have HBX:OBox W.heap.size (W.heap.size + 1 + 1) (W.heap.size + 1 + 1 + 1) p A1 n1 c1 A2 n2 c2 A3 n3 c3 W0:=by
  rw [hW0]
  exact ⟨(((at_new0 _ _ _).al _).al _).al _,(at_new2 _ _ _ _ _).al _,at_new3 _ _ _ _ _ _⟩
 have hB0:Below W.heap.size W W0:=by rw [hW0];exact (((((Bel.refl W).al _).al _).al _).al _)
 have hsz:W0.heap.size=W.heap.size + 4:=by rw [hW0];simp
 clear hW0 CS
 obtain ⟨q5,hq5⟩:∃ q,q=W.heap.size + 1 + 1 + 1:=⟨_,rfl⟩
 rw [← hq5] at HBX ⊢
 obtain ⟨q2,hq2⟩:∃ q,q=W.heap.size + 1 + 1:=⟨_,rfl⟩
 rw [← hq2] at HBX ⊢
 obtain ⟨q1,hq1⟩:∃ q,q=W.heap.size + 1:=⟨_,rfl⟩
 rw [← hq1]
 obtain ⟨q0,hq0⟩:∃ q,q=W.heap.size:=⟨_,rfl⟩
 rw [← hq0] at HBX
 rw [show Value.pointer (some ⟨W.heap.size,0,none⟩)=Value.pointer (some ⟨q0,0,none⟩) by rw [hq0]]
 have HQ:Hid (W.heap.size≤q0∧q0 < q2∧q2 < q5∧q5 < W0.heap.size):=by unfold Hid;omega
 clear hq0 hq1 hq2 hq5 hsz
 obtain ⟨xs,hxs⟩:∃ xs,xs=argsA l l':=⟨_,rfl⟩
 obtain ⟨ys,hys⟩:∃ ys,ys=sgA (l,l'):=⟨_,rfl⟩
 have hSQ:=sgn_at (n0:=8) (p:=q5) (c:=c1) (c':=c2) (A:=A1) (A':=A2) (l:=l) (l':=l') HP.out.b.1 HP.out.b.2
 rw [← hxs] at hSQ
 have HXL:Hid (xs.length=ys.length):=by rw [hxs,hys];unfold argsA Hid;simp
 have HXS:Hid (∀ k y,xs[k]? = some y → ∃ z,ys[k]? = some z∧y=argA z∧z.1.2.1.size≤2000000):=fun k y hk=>by
  rw [hxs] at hk
  obtain ⟨z,h1,h2⟩:=args_at hk
  rw [hys]
  exact ⟨z,h1,h2,(HP.out.s _ (sg_mem h1)).2⟩
 have HRS:Hid (res=ys.any fun z=>T.hasOff z.1.2.1):=by rw [← HRS0.out,hys];rfl
 clear hxs hys
 refine wpIn_range_mk (gf:=59) (lb:=#[.pointer (some ⟨q5,0,none⟩)]) rfl (by decide) rfl trivial (enters_of Tryz.func59 (by kernel_rfl) rfl) (xs:=xs) hSQ (fun k y hy=>by obtain ⟨z,_,rfl,_⟩:=HXS.out k y hy;rfl)
  (fun k V=>res=(ys.drop k).any (fun z=>T.hasOff z.1.2.1)∧OBox q0 q2 q5 p A1 n1 c1 A2 n2 c2 A3 n3 c3 V∧Below W.heap.size W V)
  (fun c _ V=>c = .ret∧res=true∧At V q2 [.bool true]∧Below W.heap.size W V)
  ?hI ?hIx (fun k V hh=>by obtain ⟨_,h2,h3⟩:=hh;exact HP.out.sg h3 h2.b5) ⟨by rw [List.drop_zero];exact HRS.out,HBX,hB0⟩ (fun y=>(y.getD 0 undef).cells.toList) 96
  (fun y b=>{ tmps:=#[.pointer (some ⟨p,0,none⟩),.agg #[.slice A1 n1 c1,.slice A2 n2 c2,.slice A3 n3 c3],.pointer (some ⟨q0,0,none⟩),.pointer (some ⟨q1,0,none⟩),.pointer (some ⟨q2,0,none⟩),.pointer (some ⟨b,0,none⟩),.agg #[.slice A1 n1 c1,.slice A2 n2 c2,.slice A3 n3 c3],.func (.func 59) #[] #[.pointer (some ⟨q5,0,none⟩)],y.getD 0 undef,y.getD 1 undef,undef,undef,undef,undef,undef,undef,undef,undef,undef],defers:=[] }) ?assign ?body ?done ?stop
 case hI =>
  rintro k V V' row ⟨h1,h2,h3⟩ hg hrow
  have hq:=HQ.out
  exact ⟨h1,h2.own (d:=W0.heap.size) hg (by omega) (fun r e=>(hrow r e).1),h3.grown hg h3.size (fun r e=>by have:=(hrow r e).1;omega)⟩
 case hIx =>
  rintro c k V V' row ⟨rfl,h1,h2,h4⟩ hg hrow
  have hq:=HQ.out
  exact ⟨rfl,h1,h2.own hg (fun r e=>by have:=(hrow r e).1;omega),h4.grown hg h4.size (fun r e=>by have:=(hrow r e).1;omega)⟩
 case assign =>
  intro li k y V K hy hK
  obtain ⟨z,_,rfl,_⟩:=HXS.out k y hy
  unfold argA at hK ⊢
  gi_wp2
  exact hK
 case body =>
  rintro li k y V b ⟨hv0,hbx,hbel⟩ hy hbq hAb
  obtain ⟨⟨⟨ap,an,pw⟩,sg⟩,hz,rfl,hsz⟩:=HXS.out k y hy
  have hdr:ys.drop k=(((ap,an,pw),sg):AL × Int) :: ys.drop (k + 1):=by
   rw [List.drop_eq_getElem_cons (List.getElem?_eq_some_iff.1 hz).1,(List.getElem?_eq_some_iff.1 hz).2]
  rw [hdr,List.any_cons] at hv0
  replace hAb:At V b [.string ap,.string an,.int .i64 pw]:=hAb
  have hTV:=HT.out.up hbel
  obtain ⟨nm,id,ba,s1,B1,m1,d1,B2,m2,d2,s2,B3,m3,d3,B4,m4,d4,ho,v,_,k1,hent,hno⟩:=hTV.look (s:=an) (Nat.le_trans hsz (by decide))
  have hho:T.hasOff an=ho:=by
   unfold Tb.hasOff
   cases hl:lookL T.ents an with
   | none=>exact (hno hl).2.symm
   | some m=>exact (hent m hl).2.2.2.1.symm
  have HV:Hid (res=(ho || (ys.drop (k + 1)).any fun z=>T.hasOff z.1.2.1)):=by rw [← hho];exact hv0
  have HS:Hid (∀ w':World,Below V.heap.size V w'→w'.cell? ⟨q0,0,none⟩=some (.pointer (some ⟨p,0,none⟩))∧w'.cell? ⟨p,2,none⟩=some (.map (some x.b1))∧w'.cell? ⟨b,1,none⟩=some (.string an)∧(Instr.lookup 84 (.map (some x.b1)) (.string an) false).run Tryz.prog w' = .ok (mV nm id ba s1 B1 m1 d1 B2 m2 d2 s2 B3 m3 d3 B4 m4 d4 ho v) w'):=fun w' hw =>
   ⟨(hw.cell hbx.b0.lt).trans hbx.b0.c0,(hw.cell hTV.lt).trans hTV.c2,(hw.cell hAb.lt).trans hAb.c1,k1 w' (Turn.of hw)⟩
  have HBX2:=khide hbx
  have HBL:=khide hbel
  clear hTV k1 hent hno hz hy hdr hv0 hAb hbx hbel hbq hsz hho
  cases ho
  ·have hf0:=@field_entry nm id ba s1 B1 m1 d1 B2 m2 d2 s2 B3 m3 d3 B4 m4 d4 false v
   have hf1:=@field_has nm id ba s1 B1 m1 d1 B2 m2 d2 s2 B3 m3 d3 B4 m4 d4 false
   rw [show (argA ((ap,an,pw),sg)).getD 1 undef = .int .i64 sg from rfl,show (argA ((ap,an,pw),sg)).getD 0 undef = .agg #[.string ap,.string an,.int .i64 pw] from rfl]
   gi_wp2_with fail
   refine wpIn_region_held_drew (S:=fun w'=>w'.cell? ⟨q0,0,none⟩=some (.pointer (some ⟨p,0,none⟩))∧w'.cell? ⟨p,2,none⟩=some (.map (some x.b1))∧w'.cell? ⟨b,1,none⟩=some (.string an)∧(Instr.lookup 84 (.map (some x.b1)) (.string an) false).run Tryz.prog w' = .ok (mV nm id ba s1 B1 m1 d1 B2 m2 d2 s2 B3 m3 d3 B4 m4 d4 false v) w') (by kernel_rfl) (by rfl) (fun ⟨_,_,h⟩=>h) (HS.out _ ((Below.refl _ _).drew)) (fun hHeld=>?_)
   refine tq 0 ?_
   refine tq 1 ?_
   refine tq 2 ?_
   refine tq 3 ?_
   refine tq 4 ?_
   refine tq 5 ?_
   refine tq 6 ?_
   refine tq 7 ?_
   refine tq 8 ?_
   refine wpAnyH_done (by decide +kernel) ?_ _
   refine name_at ?_
   intro V1 hV1
   have hb1:Hid (Below V.heap.size V V1):=by rw [hV1];exact (Below.refl _ _).drew
   have hbx1:=HBX2.out.up hb1
   have hk1:KeepsOthers V V1:=ko_bel hb1
   have hbel1:Below W.heap.size W V1:=HBL.out.trans (hb1.out.mono HBL.out.size)
   clear hV1 hHeld hf0 hf1
   have z0:=hbx1.b2.c0;have z1:=hbx1.b2.f0;have z2:=hbx1.b2.lt
   gi_wp2
   exact ⟨hk1,by rw [HV.out];rfl,hbx1,hbel1⟩
  ·have hf0:=@field_entry nm id ba s1 B1 m1 d1 B2 m2 d2 s2 B3 m3 d3 B4 m4 d4 true v
   have hf1:=@field_has nm id ba s1 B1 m1 d1 B2 m2 d2 s2 B3 m3 d3 B4 m4 d4 true
   rw [show (argA ((ap,an,pw),sg)).getD 1 undef = .int .i64 sg from rfl,show (argA ((ap,an,pw),sg)).getD 0 undef = .agg #[.string ap,.string an,.int .i64 pw] from rfl]
   gi_wp2_with fail
   refine wpIn_region_held_drew (S:=fun w'=>w'.cell? ⟨q0,0,none⟩=some (.pointer (some ⟨p,0,none⟩))∧w'.cell? ⟨p,2,none⟩=some (.map (some x.b1))∧w'.cell? ⟨b,1,none⟩=some (.string an)∧(Instr.lookup 84 (.map (some x.b1)) (.string an) false).run Tryz.prog w' = .ok (mV nm id ba s1 B1 m1 d1 B2 m2 d2 s2 B3 m3 d3 B4 m4 d4 true v) w') (by kernel_rfl) (by rfl) (fun ⟨_,_,h⟩=>h) (HS.out _ ((Below.refl _ _).drew)) (fun hHeld=>?_)
   refine tq 0 ?_
   refine tq 1 ?_
   refine tq 2 ?_
   refine tq 3 ?_
   refine tq 4 ?_
   refine tq 5 ?_
   refine tq 6 ?_
   refine tq 7 ?_
   refine tq 8 ?_
   refine wpAnyH_done (by decide +kernel) ?_ _
   refine name_at ?_
   intro V1 hV1
   have hb1:Hid (Below V.heap.size V V1):=by rw [hV1];exact (Below.refl _ _).drew
   have hbx1:=HBX2.out.up hb1
   have hk1:KeepsOthers V V1:=ko_bel hb1
   have hbel1:Below W.heap.size W V1:=HBL.out.trans (hb1.out.mono HBL.out.size)
   clear hV1 hHeld hf0 hf1
   have z0:=hbx1.b2.c0;have z1:=hbx1.b2.f0;have z2:=hbx1.b2.lt
   gi_wp2
   exact ⟨hk1.trans (KeepsOthers.setCell _ _ _),rfl,by rw [HV.out];rfl,hbx1.b2.put (i:=0) (by simp) _,hbel1.setCell (by have:=HQ.out;show W.heap.size≤q2;omega) _⟩
 case done =>
  rintro D V hD ⟨h1,h2,h3⟩ hK
  have HR:Hid (res=false):=by rw [h1,List.drop_of_length_le (by rw [HXL.out];exact Nat.le_refl _)];rfl
  have z0:=h2.b2.c0
  have z1:=h2.b2.f0
  have z2:=h2.b2.lt
  have HK:=khide hK
  clear h1 hK
  gi_wp2
  obtain ⟨X,hX⟩:∃ X,X=V.setCell ⟨q2,0,none⟩ (.bool false):=⟨_,rfl⟩
  have e2:At X q2 [.bool false]:=by rw [hX];exact h2.b2.put (i:=0) (by simp) _
  have hBX:Below W.heap.size W X:=by rw [hX];exact h3.setCell (by have:=HQ.out;show W.heap.size≤q2;omega) _
  have hKX:X.heap[D]? = some (.deferred (some [])):=by rw [hX];exact (KeepsOthers.setCell _ _ _).same D _ HK.out rfl
  rw [← hX]
  refine ⟨by simp,.inl ⟨_,_,rfl,run_takeDeferred hKX,?_⟩⟩
  obtain ⟨Y,hY⟩:∃ Y,Y=X.putObj D (.deferred none):=⟨_,rfl⟩
  have g2:At Y q2 [.bool false]:=by rw [hY];exact e2.own (grownBy_putObj' X D _) (fun r e=>by cases e;have:=HQ.out;omega)
  have hBY:Below W.heap.size W Y:=by rw [hY];exact hBX.grown (grownBy_putObj' X D _) hBX.size (fun r e=>by cases e;have:=HQ.out;omega)
  rw [← hY]
  have w8:=g2.c0
  refine ⟨.bool false,by simp [results,Tryz.results183,go_sem,w8],?_⟩
  exact ⟨by rw [HR.out],hBY⟩
 case stop =>
  rintro D c k V hD ⟨rfl,h1,h2,h4⟩ hK
  have HR:=khide h1
  have HK:=khide hK
  clear h1 hK
  gi_wp2
  obtain ⟨X,hX⟩:∃ X,X=V:=⟨_,rfl⟩
  rw [← hX] at h2 h4 HK ⊢
  have e2:=h2
  have hBX:=h4
  refine ⟨by simp,.inl ⟨_,_,rfl,run_takeDeferred HK.out,?_⟩⟩
  obtain ⟨Y,hY⟩:∃ Y,Y=X.putObj D (.deferred none):=⟨_,rfl⟩
  have g2:At Y q2 [.bool true]:=by rw [hY];exact e2.own (grownBy_putObj' X D _) (fun r e=>by cases e;have:=HQ.out;omega)
  have hBY:Below W.heap.size W Y:=by rw [hY];exact hBX.grown (grownBy_putObj' X D _) hBX.size (fun r e=>by cases e;have:=HQ.out;omega)
  rw [← hY]
  have w8:=g2.c0
  refine ⟨.bool true,by simp [results,Tryz.results183,go_sem,w8],?_⟩
  exact ⟨by rw [HR.out],hBY⟩
end
end Go.Proofs.YtfflmmbhpchloaaGreatDoor
end
section
open Go.RowKit
namespace Go.Proofs.YtfflmmbhpchloaaGreatDoor
section
variable {W:World} {b b' s s':Bool} {A A' B B':Option Addr} {n n' c c' m m' k k' e e':Nat} {z z':Int} {r r':Rat} {K L d d':Nat}
theorem rmul_h (h:QA W b A n c A' n' c' r K) (h':QA W b' B k e B' k' e' r' K) (hK:0 < K) (hK2:K≤20000):Calls Tryz.prog 184 #[.agg #[.bool b,.slice A n c,.slice A' n' c'],.agg #[.bool b',.slice B k e,.slice B' k' e']] W (QR W (r * r')):=by
 have CTa:Hid (∀ W',Bel W W'→Calls Tryz.prog 40 #[.agg #[.bool b,.slice A n c,.slice A' n' c']] W' (TermsR W' r K)):=fun W' hb=>terms_h (h.up hb) hK
 have CTb:Hid (∀ W',Bel W W'→Calls Tryz.prog 40 #[.agg #[.bool b',.slice B k e,.slice B' k' e']] W' (TermsR W' r' K)):=fun W' hb=>terms_h (h'.up hb) hK
 have CA:Hid (∀ W' s B k e s' B' k' e' (z:Int) (d:Nat) (z':Int) (d':Nat),ZA W' s B k e z→ZA W' s' B' k' e' z'→Hid (TT z d r K)→Hid (TT z' d' r' K) → ∀ v,Hid (v=z * z')→Calls Tryz.prog 91 #[.agg #[.bool s,.slice B k e],.agg #[.bool s',.slice B' k' e']] W' (ZR W' v)):=fun W' s B k e s' B' k' e' z d z' d' h1 h2 t1 t2 v hv=>zmul_h h1 h2 hv.out.symm (by rw [hv.out];exact Nat.le_trans (dl_bd2 (tt_mul t1.out t2.out).2.2.1 (by omega)) (by omega))
 have CM:Hid (∀ W' B k e B' k' e' z d z' d',Nm W' B k e d→Nm W' B' k' e' d'→Hid (TT z d r K)→Hid (TT z' d' r' K)→Calls Tryz.prog 133 #[.agg #[.slice B k e],.agg #[.slice B' k' e']] W' (NumR W' (d * d'))):=fun W' B k e B' k' e' z d z' d' h1 h2 t1 t2=>mul_h h1 h2 rfl (Nat.le_trans (dl_bd2 (tt_mul t1.out t2.out).2.2.2 (by omega)) (by omega))
 have CL:Hid (∀ W' s B k e B' k' e' (z:Int) (d:Nat) (z':Int) (d':Nat) (v:Int),Hid (v=z * z')→ZA W' s B k e v→Nm W' B' k' e' (d * d')→Hid (TT z d r K)→Hid (TT z' d' r' K)→Calls Tryz.prog 39 #[.agg #[.bool s,.slice B k e],.agg #[.slice B' k' e']] W' (QR W' (r * r'))):=fun W' s B k e B' k' e' z d z' d' v hv h1 h2 t1 t2=>lowest_t (show ZA W' s B k e (z * z') by rw [← hv.out];exact h1) h2 (tt_mul t1.out t2.out) (by omega) (by omega)
 clear h h'
 have HB:=Bel.refl W
 go_enter Tryz.func184,Tryz.ntmps184
 go_wp2_with (first | (go_at_call 40;(with_reducible refine (CTa.out _ (((HB.al _).al _).al _)).mono ?_);rintro e w1 ⟨ps,pA,pn,pc,pB,pm,pe,pz,pd,rfl,pzz,pnn,ph,hbk⟩;have HX:=At.up (((at_new0 _ _ _).al _).al _) hbk;have HY:=At.up ((at_new1 _ _ _ _).al _) hbk;have HR:=At.up (at_new2 _ _ _ _ _) hbk;replace HB:=(((HB.al _).al _).al _).up hbk;have hy_0:=HY.c0;have hy_1:=HY.c1;have hy_2:=HY.c2;have hy_l:=HY.lt;have hy2:W.heap.size < w1.heap.size:=(by omega);replace ph:Hid (TT pz pd r K):=ph;have hLR:=HR.lt) | (go_at_call 40;(with_reducible refine (CTb.out _ ((HB.al _).al _)).mono ?_);rintro e w2 ⟨qs,qA,qn,qc,qB,qm,qe,qz,qd,rfl,qzz,qnn,qh,hbk⟩;have HP:=At.up ((at_new0 _ _ _).al _) hbk;have HN:=At.up (at_new1 _ _ _ _) hbk;replace HB:=((HB.al _).al _).up hbk;replace pzz:=((pzz.al _).al _).up hbk;replace pnn:=((pnn.al _).al _).up hbk;replace HR:=((HR.al _).al _).up hbk;clear hy_0 hy_1 hy_2 hy_l hy2;have hp_l:=HP.lt;have hn_l:=HN.lt;replace qh:Hid (TT qz qd r' K):=qh;have hLR2:=HR.lt) | fail)
 go_region_held3 (fun w'=>w'.cell? ⟨w1.heap.size,0,none⟩=some (.bool ps)∧w'.cell? ⟨w1.heap.size,1,none⟩=some (.slice pA pn pc)∧w'.cell? ⟨w1.heap.size + 1,0,none⟩=some (.slice pB pm pe)∧w'.cell? ⟨w2.heap.size,0,none⟩=some (.bool qs)∧w'.cell? ⟨w2.heap.size,1,none⟩=some (.slice qA qn qc)∧w'.cell? ⟨w2.heap.size + 1,0,none⟩=some (.slice qB qm qe))
  (first | exact ⟨((HP.al _).al _).dr.c0,((HP.al _).al _).dr.c1,((HN.al _).al _).dr.c0,((at_new0 _ _ _).al _).dr.c0,((at_new0 _ _ _).al _).dr.c1,(at_new1 _ _ _ _).dr.c0⟩ | exact ⟨HP.c0,HP.c1,HN.c0,HV.c0,HV.c1,HM.c0⟩ | exact ⟨(((HP.far (by omega) _).far (by omega) _).far (by omega) _).c0,(((HP.far (by omega) _).far (by omega) _).far (by omega) _).c1,(((HN.far (by omega) _).far (by omega) _).far (by omega) _).c0,(((HV.far (by omega) _).far (by omega) _).far (by omega) _).c0,(((HV.far (by omega) _).far (by omega) _).far (by omega) _).c1,(((HM.far (by omega) _).far (by omega) _).far (by omega) _).c0⟩)
  (first | (go_at_call 91;obtain ⟨av,hav⟩:∃ v:Int,Hid (v=pz * qz):=⟨_,rfl⟩;(with_reducible refine (CA.out _ _ _ _ _ _ _ _ _ _ _ _ _ ((pzz.al _).al _).dr ((qzz.al _).al _).dr ph qh av hav).mono ?_);rintro e w3 ⟨aA,ac,rfl,a1,hbk⟩;have HV:=At.up ((at_new0 _ _ _).al _).dr hbk;have HM:=At.up (at_new1 _ _ _ _).dr hbk;replace HB:=((HB.al _).al _).dr.up hbk;replace HP:=((HP.al _).al _).dr.up hbk;replace HN:=((HN.al _).al _).dr.up hbk;replace HR:=((HR.al _).al _).dr.up hbk;replace pnn:=((pnn.al _).al _).dr.up hbk;replace qnn:=((qnn.al _).al _).dr.up hbk) | (go_at_call 133;(with_reducible refine (CM.out _ _ _ _ _ _ _ _ _ _ _ pnn qnn ph qh).mono ?_);rintro e w6 ⟨mA,mc,rfl,m1,hbk⟩;replace HB:=HB.up hbk;replace HP:=HP.up hbk;replace HN:=HN.up hbk;replace HR:=HR.up hbk;replace HV:=HV.up hbk;replace HM:=HM.up hbk;replace a1:=a1.up hbk;have hL:=HP.lt;have hL1:=HN.lt;have hL2:=HV.lt;have hL3:=HM.lt) | (go_at_call 39;(with_reducible refine (CL.out _ _ _ _ _ _ _ _ _ _ _ _ _ hav a1 m1 ph qh).mono ?_);rintro e w7 ⟨B,e1,B',e2,rfl,nz,nd,hbk⟩;replace HB:=HB.up hbk;replace HR:=HR.up hbk;replace HP:=HP.up hbk;replace HN:=HN.up hbk;replace HV:=HV.up hbk;replace HM:=HM.up hbk;have hr_0:=HR.c0;have hr_1:=HR.c1;have hr_2:=HR.c2;have hr_l:=HR.lt;have hr_f0:=HR.f0;have hr_f1:=HR.f1;have hr_f2:=HR.f2) | fail)
 go_wp2_with fail
 refine bodyPost_ret (v:=.agg #[.bool (decide ((r * r').num < 0)),.slice B (dl (r * r').num.natAbs) e1,.slice B' (dl (r * r').den) e2]) (by simp [results,Tryz.results184,go_sem,hr_0,hr_1,hr_2]) rfl ?_
 exact ⟨B,e1,B',e2,rfl,zr_of (nz.1.put3 HR now3),nd.put3 HR now3,below3 HB (by first | omega | simp | (simp;omega)) _ _ _⟩
end

section
variable {W w:World} {b:Bool} {A A':Option Addr} {n c n' c' K m m':Nat} {r:Rat} {z:Int}
def OfYs2 (W:World) (sg:Bool) (r:Rat) (e:Ending) (w':World):Prop:=∃ A c A' c',e = .returned (.tuple #[.agg #[.bool sg,.slice A (dl r.num.natAbs) c,.slice A' (dl r.den) c'],.bool true])∧ZA w' sg A (dl r.num.natAbs) c r.num∧Nm w' A' (dl r.den) c' r.den∧Hid (Below W.heap.size W w')
end

theorem At.put1 {W:World} {p:Nat} {v:Value} (h:At W p [v]) (u:Value):At (W.setCell ⟨p,0,none⟩ u) p [u]:=h.put (i:=0) (by simp) u
theorem Bel.put {w W:World} (h:Bel w W) {p i:Nat} (hp:w.heap.size≤p) (u:Value):Bel w (W.setCell ⟨p,i,none⟩ u):=Below.setCell h hp u
theorem Nm.putx {W:World} {A:Option Addr} {n c m:Nat} {p:Addr} (h:Nm W A n c m) (hv:∃ v,W.cell? p=some v ∧ ∀ x:Nat,v ≠ U32 x) (u:Value):Nm (W.setCell p u) A n c m:=by
 obtain ⟨v,h1,h2⟩:=hv
 exact h.setn h1 h2 u
theorem not_u32 {A:Option Addr} {n c:Nat}:∀ x:Nat,Value.slice A n c ≠ U32 x:=fun x h=>by cases h
theorem ret_n {W w2:World} {B:Option Addr} {d p v:Nat} {v0:Value} (hW:Bel W w2) (hp:W.heap.size≤p) (hR:At w2 p [v0]) (hw:NoW [v0]) (hn:Nm w2 B (dl v) d v) :
 NumR W v (.returned (.agg #[.slice B (dl v) d])) (w2.setCell ⟨p,0,none⟩ (.slice B (dl v) d)) :=
 ⟨B,d,rfl,hn.put (i:=0) hR (by simp) hw _,Below.setCell hW hp _⟩
section
variable {W w:World} {b b':Bool} {A A':Option Addr} {n n' c c' m m':Nat} {s s':Int}
end
def QRw (W:World) (sg:Bool) (r:Rat) (e:Ending) (w':World):Prop:=∃ A c A' c',e = .returned (.agg #[.bool sg,.slice A (dl r.num.natAbs) c,.slice A' (dl r.den) c'])∧ZA w' sg A (dl r.num.natAbs) c r.num∧Nm w' A' (dl r.den) c' r.den∧Hid (Below W.heap.size W w')
def OfYw (W:World) (sg:Bool) (r:Rat) (e:Ending) (w':World):Prop:=∃ A c A' c',e = .returned (.tuple #[.agg #[.bool sg,.slice A (dl r.num.natAbs) c,.slice A' (dl r.den) c'],.bool true])∧ZA w' sg A (dl r.num.natAbs) c r.num∧Nm w' A' (dl r.den) c' r.den∧Hid (Below W.heap.size W w')
theorem Nm.putq {W:World} {p:Nat} {A:Option Addr} {n c m:Nat} (h:Nm W A n c m) (hp:At W p [.bool false,.slice none 0 0,.slice none 0 0]) (b:Bool) (B:Option Addr) (k d:Nat) (B':Option Addr) (k' d':Nat) :
 Nm (((W.setCell ⟨p,0,none⟩ (.bool b)).setCell ⟨p,1,none⟩ (.slice B k d)).setCell ⟨p,2,none⟩ (.slice B' k' d')) A n c m:=h.put3 hp now3
theorem Bel.put3 {w W:World} (h:Bel w W) {p:Nat} (hp:w.heap.size≤p) (x y z:Value):Bel w (((W.setCell ⟨p,0,none⟩ x).setCell ⟨p,1,none⟩ y).setCell ⟨p,2,none⟩ z):=below3 h hp x y z
section
variable {W:World} {b b0:Bool} {A A0:Option Addr} {n c m s n0 c0:Nat} {s0:Int} {r:Rat}
end
section
variable {W:World} {b b':Bool} {A A':Option Addr} {n n' c c' m m' q r:Nat} {z f:Int}
end
section
variable {W:World} {b b':Bool} {A A':Option Addr} {n n' c c' q K:Nat} {p f r m:Int}
end
theorem Bel.uput3 {w W:World} (h:Bel w W) {p:Nat} (hp:w.heap.size≤p) (x y z:Value):Bel w (((W.setCell ⟨p,0,none⟩ x).setCell ⟨p,1,none⟩ y).setCell ⟨p,2,none⟩ z):=below3 h hp x y z
section
variable {W:World} {b b':Bool} {A A' A2:Option Addr} {n n' n2 c c' c2 m2 s K:Nat} {m:Int} {r:Rat}
end
theorem at_newS {W:World} (q:Addr) (u:Value) (vs:List Value) (t:TypeId):At ((W.setCell q u).alloc (.cells vs.toArray t)) W.heap.size vs:=at_size (at_new0 _ vs t) (by simp [World.setCell])
section
variable {W:World} {b b':Bool} {A A' A2:Option Addr} {n n' n2 c c' c2 m2 s K q:Nat} {m:Int} {r:Rat}
theorem qpower_h {k:Nat} (h:Nm W A n c q) (hk:k≤1000000) (hb:∀ i,i≤k→dl (q ^ i)≤100000):Calls Tryz.prog 180 #[.agg #[.slice A n c],.int .i64 (k:Int)] W (NumR W (q ^ k)):=by
 obtain ⟨u,hu⟩:∃ u,q ^ k=u:=⟨_,rfl⟩
 have CP:Hid (∀ W',Bel W W'→Calls Tryz.prog 212 #[.agg #[.slice A n c],.int .i64 (k:Int)] W' (NumR W' u)):=fun W' hw=>pow_h (h.up hw.hid) hk hb hu
 have h1:decide ((k:Int) < 0)=false:=decide_eq_false (by omega)
 rw [hu]
 clear hu h hb hk
 have HB:=Bel.refl W
 go_enter Tryz.func180,Tryz.ntmps180
 go_wp2_with (first | (go_at_call 212;(with_reducible refine (CP.out _ ((HB.al _).al _)).mono ?_);rintro e w2 ⟨B2,e2,rfl,nb2,hbk⟩;have HR:=At.up (at_new1 _ _ _ _) hbk;replace HB:=((HB.al _).al _).up hbk;have hr_0:=HR.c0;have hr_l:=HR.lt;have hr_f0:=HR.f0) | fail)
 refine bodyPost_ret (v:=.agg #[.slice B2 (dl u) e2]) (by simp [results,Tryz.results180,go_sem,hr_0]) rfl ?_
 exact ret_n HB (by omega) HR now1 nb2
theorem pow_bd {x k:Nat} (hx:x < W32 ^ K) (hk:K * k≤90000) {i:Nat} (hi:i≤k):dl (x ^ i)≤100000:=by
 have h1:x ^ i≤(W32 ^ K) ^ i:=Nat.pow_le_pow_left (Nat.le_of_lt hx) i
 rw [← Nat.pow_mul] at h1
 have h2:K * i≤K * k:=Nat.mul_le_mul_left K hi
 have h3:W32 ^ (K * i) < W32 ^ (K * i + 1):=Nat.pow_lt_pow_right (by decide) (by omega)
 exact Nat.le_trans (dl_le (k:=K * i + 1) (by omega)) (by omega)
theorem rpow_p {k:Nat} (h:QA W b A n c A' n' c' r K) (h0:0≤r) (hb:Bd r K) (hK0:0 < K) (hK2:K≤20000) (hk:K * k≤90000):Calls Tryz.prog 127 #[.agg #[.bool b,.slice A n c,.slice A' n' c'],.int .i64 (k:Int)] W (OfYw W false (r ^ k)):=by
 have hn0:0≤r.num:=Rat.num_nonneg.2 h0
 have hkk:k≤1000000:=by
  have:1 * k≤K * k:=Nat.mul_le_mul_right k hK0
  omega
 have CT:Hid (∀ W',Bel W W'→Calls Tryz.prog 40 #[.agg #[.bool b,.slice A n c,.slice A' n' c']] W' (TermsR W' r K)):=fun W' hw=>terms_h (h.up hw.hid) hK0
 have CL:Hid (∀ W' s B k e B' k' e' z d,ZA W' s B k e z→Nm W' B' k' e' d→Hid (0 < d∧mkRat z d=r∧z.natAbs < W32 ^ K∧d < W32 ^ K)→Calls Tryz.prog 39 #[.agg #[.bool s,.slice B k e],.agg #[.slice B' k' e']] W' (QRw W' false r)):=fun W' s B k e B' k' e' z d hz hd hp=>by
  have h1:=lowest_t hz hd hp.out (by omega) (by omega)
  unfold QR at h1
  rw [decide_eq_false (show ¬ r.num < 0 by omega)] at h1
  exact h1
 obtain ⟨x,hx⟩:∃ x:Nat,x=r.num.natAbs:=⟨_,rfl⟩
 obtain ⟨y,hy⟩:∃ y:Nat,y=r.den:=⟨_,rfl⟩
 obtain ⟨u,hu⟩:∃ u:Nat,x ^ k=u:=⟨_,rfl⟩
 obtain ⟨v,hv⟩:∃ v:Nat,y ^ k=v:=⟨_,rfl⟩
 have bx:x < W32 ^ K:=by rw [hx];exact hb.1
 have by_:y < W32 ^ K:=by rw [hy];exact hb.2
 have CX:Hid (∀ W' B n e,Nm W' B n e x→Calls Tryz.prog 180 #[.agg #[.slice B n e],.int .i64 (k:Int)] W' (NumR W' u)):=fun W' B n e h1=>by rw [← hu];exact qpower_h h1 hkk (fun i hi=>pow_bd bx hk hi)
 have CY:Hid (∀ W' B n e,Nm W' B n e y→Calls Tryz.prog 180 #[.agg #[.slice B n e],.int .i64 (k:Int)] W' (NumR W' v)):=fun W' B n e h1=>by rw [← hv];exact qpower_h h1 hkk (fun i hi=>pow_bd by_ hk hi)
 have HX:Hid ((r ^ k).num.natAbs=u∧(r ^ k).den=v ∧ ¬ (r ^ k).num < 0):=by
  unfold Hid
  rw [Rat.num_pow,Rat.den_pow,Int.natAbs_pow,← hx,← hy,hu,hv]
  refine ⟨rfl,rfl,?_⟩
  have h9:0≤r.num ^ k:=Int.pow_nonneg hn0
  omega
 have hsg:decide ((k:Int) < 0)=false:=decide_eq_false (by omega)
 have HXR:=hide hx
 have HYR:=hide hy
 clear h h0 hb hK0 hK2 hk hn0 hkk hu hv bx by_ hx hy
 have HB:=Bel.refl W
 go_enter Tryz.func127,Tryz.ntmps127
 go_wp2_with (first | (go_at_call 40;(with_reducible refine (CT.out _ ((HB.al _).al _)).mono ?_);rintro e w1 ⟨s,B,k1,e1,B',k2,e2,zv,d,rfl,zp,np,hp,hbk⟩;(with_reducible (have HR:At w1 (W.heap.size + 1) [.bool false,.slice none 0 0,.slice none 0 0]:=At.up (at_new1 _ _ _ _) hbk;replace HB:=((HB.al _).al _).up hbk))) | (go_at_call 39;(with_reducible refine (CL.out _ _ _ _ _ _ _ _ _ _ zp np hp).mono ?_);rintro e w2 ⟨Bx,ex,By,ey,rfl,zx,ny,hbk⟩;(with_reducible (replace HB:=HB.up hbk;replace HR:=HR.up hbk))) | fail)
 have nx:=zx.1
 rw [← HXR.out] at nx ⊢
 rw [← HYR.out] at ny ⊢
 obtain ⟨W1,hW1⟩:∃ X,X=w2.alloc (.cells #[.bool false,.slice Bx (dl x) ex,.slice By (dl y) ey] 51):=⟨_,rfl⟩
 rw [← hW1]
 obtain ⟨pb,hpb⟩:∃ p,p=w2.heap.size:=⟨_,rfl⟩
 rw [← hpb]
 have H0:At W1 pb [.bool false,.slice Bx (dl x) ex,.slice By (dl y) ey]:=by rw [hW1,hpb];exact at_new0 _ _ _
 have hpb2:W.heap.size + 1 < pb:=by rw [hpb];exact HR.lt
 replace HR:At W1 (W.heap.size + 1) [.bool false,.slice none 0 0,.slice none 0 0]:=by rw [hW1];exact HR.al _
 replace nx:Nm W1 Bx (dl x) ex x:=by rw [hW1];exact nx.al _
 replace ny:Nm W1 By (dl y) ey y:=by rw [hW1];exact ny.al _
 replace HB:Bel W W1:=by rw [hW1];exact HB.al _
 clear hW1 hpb zx zp np hp
 have l0:=H0.lt
 have l2:=HR.lt
 go_cut [9,10] from 27 to 35 (fun o o' w=>∃ p q B e B' e',o = .pointer (some ⟨p,0,none⟩)∧o' = .pointer (some ⟨q,0,none⟩)∧W.heap.size + 1 < p∧W.heap.size + 1 < q∧At w p [.slice B (dl u) e]∧At w q [.slice B' (dl v) e']∧Nm w B (dl u) e u∧Nm w B' (dl v) e' v∧Bel W1 w)
 case first =>
  have HW:=Bel.refl W1
  go_region_held3 (fun w'=>w'.cell? ⟨pb,0,none⟩=some (.bool false)∧w'.cell? ⟨pb,1,none⟩=some (.slice Bx (dl x) ex)∧w'.cell? ⟨pb,2,none⟩=some (.slice By (dl y) ey))
   (refine ⟨(?_:At _ pb [.bool false,.slice Bx (dl x) ex,.slice By (dl y) ey]).c0,(?_:At _ pb [.bool false,.slice Bx (dl x) ex,.slice By (dl y) ey]).c1,(?_:At _ pb [.bool false,.slice Bx (dl x) ex,.slice By (dl y) ey]).c2⟩ <;> (repeat (first | with_reducible exact H0 | (with_reducible refine At.dr ?_) | (with_reducible refine At.al ?_ _) | (with_reducible refine At.far ?_ (by omega) _))))
   (first | (go_at_call 180;(with_reducible refine (CX.out _ _ _ _ nx.dr).mono ?_);rintro e w4 ⟨Bu,eu,rfl,nu,hbk⟩;(with_reducible (replace HB:=HB.dr.up hbk;replace HW:=HW.dr.up hbk;replace H0:=H0.dr.up hbk;replace nx:=nx.dr.up hbk;replace ny:=ny.dr.up hbk));have lz0:=H0.lt;(try have lz2:=HP0.lt);(try have lz3:=HP1.lt);have zs1:=Below.size HW) | (go_at_call 180;(with_reducible refine (CX.out _ _ _ _ (nx.al _).dr).mono ?_);rintro e w4 ⟨Bu,eu,rfl,nu,hbk⟩;(with_reducible (have HP0:=At.up (at_new0 _ [.slice none 0 0] _).dr hbk;replace HB:=(HB.al _).dr.up hbk;replace HW:=(HW.al _).dr.up hbk;replace H0:=(H0.al _).dr.up hbk;replace nx:=(nx.al _).dr.up hbk;replace ny:=(ny.al _).dr.up hbk));have lz0:=H0.lt;(try have lz2:=HP0.lt);(try have lz3:=HP1.lt);have zs1:=Below.size HW) | (go_at_call 180;(with_reducible refine (CX.out _ _ _ _ ((nx.al _).al _).dr).mono ?_);rintro e w4 ⟨Bu,eu,rfl,nu,hbk⟩;(with_reducible (have HP0:=At.up ((at_new0 _ [.slice none 0 0] _).al _).dr hbk;have HP1:=At.up (at_new1 _ _ [.slice none 0 0] _).dr hbk;replace HB:=((HB.al _).al _).dr.up hbk;replace HW:=((HW.al _).al _).dr.up hbk;replace H0:=((H0.al _).al _).dr.up hbk;replace nx:=((nx.al _).al _).dr.up hbk;replace ny:=((ny.al _).al _).dr.up hbk));have lz0:=H0.lt;(try have lz2:=HP0.lt);(try have lz3:=HP1.lt);have zs1:=Below.size HW) | (go_at_call 180;(with_reducible refine (CY.out _ _ _ _ ny).mono ?_);rintro e w5 ⟨Bv,ev,rfl,nv,hbk⟩;(with_reducible (replace HB:=HB.up hbk;replace HW:=HW.up hbk;replace H0:=H0.up hbk;replace nu:=nu.up hbk));(try (with_reducible replace HP0:=HP0.up hbk));(try (with_reducible replace HP1:=HP1.up hbk));(try have hp0_0:=HP0.c0);(try have fhp0_0:=HP0.f0);(try have lhp0:=HP0.lt);(try have hp1_0:=HP1.c0);(try have fhp1_0:=HP1.f0);(try have lhp1:=HP1.lt);(try have hq0_0:=HQ0.c0);(try have fhq0_0:=HQ0.f0);(try have lhq0:=HQ0.lt);(try have hq1_0:=HQ1.c0);(try have fhq1_0:=HQ1.f0);(try have lhq1:=HQ1.lt);have lz4:=H0.lt;have zs2:=Below.size HW) | (go_at_call 180;(with_reducible refine (CY.out _ _ _ _ (ny.al _)).mono ?_);rintro e w5 ⟨Bv,ev,rfl,nv,hbk⟩;(with_reducible (have HQ0:=At.up (at_new0 _ [.slice none 0 0] _) hbk;replace HB:=(HB.al _).up hbk;replace HW:=(HW.al _).up hbk;replace H0:=(H0.al _).up hbk;replace nu:=(nu.al _).up hbk));(try (with_reducible replace HP0:=(HP0.al _).up hbk));(try (with_reducible replace HP1:=(HP1.al _).up hbk));(try have hp0_0:=HP0.c0);(try have fhp0_0:=HP0.f0);(try have lhp0:=HP0.lt);(try have hp1_0:=HP1.c0);(try have fhp1_0:=HP1.f0);(try have lhp1:=HP1.lt);(try have hq0_0:=HQ0.c0);(try have fhq0_0:=HQ0.f0);(try have lhq0:=HQ0.lt);(try have hq1_0:=HQ1.c0);(try have fhq1_0:=HQ1.f0);(try have lhq1:=HQ1.lt);have lz4:=H0.lt;have zs2:=Below.size HW) | (go_at_call 180;(with_reducible refine (CY.out _ _ _ _ ((ny.al _).al _)).mono ?_);rintro e w5 ⟨Bv,ev,rfl,nv,hbk⟩;(with_reducible (have HQ0:=At.up ((at_new0 _ [.slice none 0 0] _).al _) hbk;have HQ1:=At.up (at_new1 _ _ [.slice none 0 0] _) hbk;replace HB:=((HB.al _).al _).up hbk;replace HW:=((HW.al _).al _).up hbk;replace H0:=((H0.al _).al _).up hbk;replace nu:=((nu.al _).al _).up hbk));(try (with_reducible replace HP0:=((HP0.al _).al _).up hbk));(try (with_reducible replace HP1:=((HP1.al _).al _).up hbk));(try have hp0_0:=HP0.c0);(try have fhp0_0:=HP0.f0);(try have lhp0:=HP0.lt);(try have hp1_0:=HP1.c0);(try have fhp1_0:=HP1.f0);(try have lhp1:=HP1.lt);(try have hq0_0:=HQ0.c0);(try have fhq0_0:=HQ0.f0);(try have lhq0:=HQ0.lt);(try have hq1_0:=HQ1.c0);(try have fhq1_0:=HQ1.f0);(try have lhq1:=HQ1.lt);have lz4:=H0.lt;have zs2:=Below.size HW) | fail)
  all_goals
   go_wp2_with fail
   go_meet
   case rel =>
    refine ⟨_,_,Bu,eu,Bv,ev,rfl,rfl,(by first | omega | (show _ < W1.heap.size;omega) | (show _ < W1.heap.size + 1;omega) | (simp;omega)),(by first | omega | (show _ < W1.heap.size;omega) | (show _ < W1.heap.size + 1;omega) | (simp;omega)),?_,?_,?_,?_,?_⟩ <;> (repeat (first | with_reducible exact nu | with_reducible exact nv | with_reducible exact HW | with_reducible exact HP0 | with_reducible exact HP1 | with_reducible exact HQ0 | with_reducible exact HQ1 | with_reducible exact at_new0 _ _ _ | with_reducible exact at_new1 _ _ _ _ | with_reducible exact at_newS _ _ _ _ | (with_reducible refine Bel.dr ?_) | (with_reducible refine Bel.al ?_ _) | (with_reducible refine Bel.put ?_ (by omega) _) | (with_reducible refine Nm.dr ?_) | (with_reducible refine Nm.al ?_ _) | (with_reducible refine Nm.putx ?_ ⟨.slice none 0 0,At.c0 (vs:=[]) ?_,not_u32⟩ _) | (with_reducible refine At.dr ?_) | (with_reducible refine At.al ?_ _) | (with_reducible refine At.put1 (v:=.slice none 0 0) ?_ _) | (with_reducible refine At.far ?_ (by omega) _)))
 case rest =>
  obtain ⟨p,q,Bu,eu,Bv,ev,rfl,rfl,hp,hq,HP,HQ,nu,nv,hW⟩:=hcut
  replace HB:=HB.up hW.hid
  replace H0:=H0.up hW.hid
  replace HR:=HR.up hW.hid
  clear hW l0 l2 nx ny
  have hx0:=H0.c0
  have hx1:=H0.lt
  have hp_0:=HP.c0
  have hp_l:=HP.lt
  have hq_0:=HQ.c0
  have hq_l:=HQ.lt
  have hr_0:=HR.c0
  have hr_1:=HR.c1
  have hr_2:=HR.c2
  have hr_l:=HR.lt
  have hr_f0:=HR.f0
  have hr_f1:=HR.f1
  have hr_f2:=HR.f2
  go_wp2_with fail
  refine bodyPost_ret (v:=.tuple #[.agg #[.bool false,.slice Bu (dl u) eu,.slice Bv (dl v) ev],.bool true]) (by simp [results,Tryz.results127,go_sem,hr_0,hr_1,hr_2]) rfl ?_
  obtain ⟨g1,g2,g3⟩:=HX.out
  refine ⟨Bu,eu,Bv,ev,by rw [g1,g2],⟨by rw [g1];exact nu.putq HR _ _ _ _ _ _ _,?_⟩,by rw [g2];exact nv.putq HR _ _ _ _ _ _ _,(HB.put3 (by omega) _ _ _).hid⟩
  unfold Hid
  rw [zi_false]
  omega
end
section
variable {W:World} {b b' sg:Bool} {A A' A2:Option Addr} {n n' n2 c c' c2 m2 s K q d:Nat} {m z e sc:Int} {r pw:Rat}
end
section
variable {W:World} {b b0:Bool} {A A0:Option Addr} {n c m s n0 c0:Nat} {s0:Int}
end
section
variable {W:World} {b b0:Bool} {A A0:Option Addr} {n c m s n0 c0:Nat} {s0:Int}
end
section
variable {W:World} {b b0:Bool} {A A0:Option Addr} {n c m s n0 c0:Nat} {s0:Int}
end
section
variable {W:World} {s:ByteArray} {b pt:Bool} {t u:List UInt8} {v:Nat}
theorem decL_lit {m:Nat} {ds:List Nat} {l:List UInt8} (h:∀ x ∈ ds,x < 10) (hl:∀ x,ds.getLast? = some x→x ≠ 0) (hm:m=val 10 ds) (h0:m ≠ 0) (hr:ds.reverse.map (fun d=>UInt8.ofNat (48 + d))=l):decL m=l:=by
 unfold decL
 rw [if_neg h0,hm,digs_val (by decide) ds h hl,hr]
end
theorem qa_self {W:World} {sg:Bool} {A A':Option Addr} {n c n' c' K:Nat} {r:Rat} (nz:ZA W sg A n c r.num) (nd:Nm W A' n' c' r.den) (hb:Bd r K):QA W sg A n c A' n' c' r K:=⟨r.num,r.den,nz,nd,Rat.mkRat_self r,hb⟩
section
variable {W:World}
end
section
variable {W w:World} {b:Bool} {A A':Option Addr} {n c n' c' K m m':Nat} {r:Rat} {z:Int}
theorem tt_inv {s:Bool} {z:Int} {d:Nat} {B:Option Addr} {k e:Nat} (hz:ZA W s B k e z) (h:TT z d r K) (h0:r ≠ 0):z ≠ 0∧mkRat (zi s d) z.natAbs=r⁻¹:=by
 obtain ⟨h1,h2,_,_⟩:=h
 have hz0:z ≠ 0:=by
  intro e
  apply h0
  rw [← h2,e];simp
 refine ⟨hz0,?_⟩
 have hs:=za_sign hz hz0
 rw [← h2,inv_mk hz0 h1,hs]
 by_cases hn:z < 0
 ·rw [if_pos hn,decide_eq_true hn,zi_true]
 ·rw [if_neg hn,decide_eq_false hn,zi_false]
theorem inv_yes (h:QA W b A n c A' n' c' r K) (hK:0 < K) (hK2:K≤20000) (h0:r ≠ 0):Calls Tryz.prog 179 #[.agg #[.bool b,.slice A n c,.slice A' n' c']] W (OfYes W r⁻¹):=by
 obtain ⟨si,hsi⟩:∃ s,s=decide ((r⁻¹).num < 0):=⟨_,rfl⟩
 obtain ⟨v,hv⟩:∃ v,v=r⁻¹:=⟨_,rfl⟩
 rw [← hv] at hsi
 have CT:Hid (∀ W',Bel W W'→Calls Tryz.prog 40 #[.agg #[.bool b,.slice A n c,.slice A' n' c']] W' (TermsR W' r K)):=fun W' hb=>terms_h (h.up hb) hK
 have CO:Hid (∀ W' s B k e B' k' e' z d,ZA W' s B k e z→Nm W' B' k' e' d→Hid (TT z d r K)→Calls Tryz.prog 211 #[.agg #[.bool s,.slice B' k' e'],.agg #[.slice B k e]] W' (OfYs2 W' si v)):=fun W' s B k e B' k' e' z d h1 h2 h3=>by
  obtain ⟨e1,e2⟩:=tt_inv h1 h3.out h0
  rw [hsi,hv]
  exact of_yes (za_of h2) h1.1 (by omega) e2 (by rw [zi_abs];exact dl_bd2 h3.out.2.2.2 (by omega)) (dl_bd2 h3.out.2.2.1 (by omega))
 rw [← hv]
 have HSI:=hide hsi
 clear h h0 hsi hv
 have HB:=Bel.refl W
 go_enter Tryz.func179,Tryz.ntmps179
 go_wp2_with (first | (go_at_call 40;(with_reducible refine (CT.out _ ((HB.al _).al _)).mono ?_);rintro e w1 ⟨ps,pA,pn,pc,pB,pm,pe,pz,pd,rfl,pzz,pnn,ph,hbk⟩;have HR:=At.up (at_new1 _ _ _ _) hbk;replace HB:=((HB.al _).al _).up hbk;replace ph:Hid (TT pz pd r K):=ph) | (go_at_call 211;(with_reducible refine (CO.out _ _ _ _ _ _ _ _ _ _ ((pzz.al _).al _) ((pnn.al _).al _) ph).mono ?_);rintro e w2 ⟨B,e1,B',e2,rfl,nz,nd,hbk⟩;replace HB:=((HB.al _).al _).up hbk;replace HR:=((HR.al _).al _).up hbk;have hr_0:=HR.c0;have hr_1:=HR.c1;have hr_2:=HR.c2;have hr_l:=HR.lt;have hr_f0:=HR.f0;have hr_f1:=HR.f1;have hr_f2:=HR.f2) | fail)
 refine bodyPost_ret (v:=.tuple #[.agg #[.bool si,.slice B (dl v.num.natAbs) e1,.slice B' (dl v.den) e2],.bool true]) (by simp [results,Tryz.results179,go_sem,hr_0,hr_1,hr_2]) rfl ?_
 exact ⟨B,e1,B',e2,by rw [HSI.out],zr_of (nz.1.put3 HR now3),nd.put3 HR now3,below3 HB (by omega) _ _ _⟩
end
section
variable {W:World} {b b' sg:Bool} {A A' A2:Option Addr} {n n' n2 c c' c2 m2 s K q d:Nat} {m z e sc:Int} {r pw:Rat}
end
section
variable {W:World} {b:Bool} {A A' A2:Option Addr} {n n' n2 c c' c2 m2 s K:Nat} {m:Int} {r:Rat}
end
end Go.Proofs.YtfflmmbhpchloaaGreatDoor
end
