/- Each theorem here says its own conditions. -/
import Derived.Test.YtfflmmbhpchloaaGreatDoorGTpwc30
set_option maxRecDepth 100000
set_option maxHeartbeats 16000000
section
open Go.RowKit Go.Shelf
open Go.Proofs.YtfflmmbhpchloaaGreatDoor.V
namespace Go.Proofs.YtfflmmbhpchloaaGreatDoor
attribute [local go_sem] Oper.semAt_some
section
variable {base p g y:Nat} {W W':World} {x:TPl} {T:Tb} {A1 A2 A3:Option Addr} {n1 c1 n2 c2 n3 c3:Nat} {l l':List AL} {N:Nat}
structure FBox (q0 q1 q2 q3 qb g:Nat) (A1:Option Addr) (n1 c1:Nat) (A2:Option Addr) (n2 c2:Nat) (A3:Option Addr) (n3 c3:Nat) (b:Nat) (q:Rat) (V:World):Prop where
 b0:At V q0 [.pointer (some ⟨g,0,none⟩)]
 b1:At V q1 [.slice A1 n1 c1,.slice A2 n2 c2,.slice A3 n3 c3]
 b2:At V q2 [.bool false,.slice none 0 0,.slice none 0 0]
 bb:At V qb [.int .i64 (b:Int)]
 num:∃ A c A' c',At V q3 [.bool false,.slice A (dl q.num.natAbs) c,.slice A' (dl q.den) c']∧ZA V false A (dl q.num.natAbs) c q.num∧Nm V A' (dl q.den) c' q.den
section
variable {q0 q1 q2 q3 qb b:Nat} {q:Rat} {V V':World}
theorem FBox.up (h:FBox q0 q1 q2 q3 qb g A1 n1 c1 A2 n2 c2 A3 n3 c3 b q V) (hb:Hid (Below V.heap.size V V')):FBox q0 q1 q2 q3 qb g A1 n1 c1 A2 n2 c2 A3 n3 c3 b q V':=by
 obtain ⟨h0,h1,h2,h3,A,c,A',c',h4,h5,h6⟩:=h
 exact ⟨h0.up hb,h1.up hb,h2.up hb,h3.up hb,A,c,A',c',h4.up hb,h5.up hb,h6.up hb⟩
theorem FBox.turn {S:List Nat} (h:FBox q0 q1 q2 q3 qb g A1 n1 c1 A2 n2 c2 A3 n3 c3 b q V) (t:Turn S V V') (k:KU V V') (hn:q0 ∉ S∧q1 ∉ S∧q2 ∉ S∧q3 ∉ S∧qb ∉ S):FBox q0 q1 q2 q3 qb g A1 n1 c1 A2 n2 c2 A3 n3 c3 b q V':=by
 obtain ⟨h0,h1,h2,h3,A,c,A',c',h4,h5,h6⟩:=h
 exact ⟨h0.turn t hn.1,h1.turn t hn.2.1,h2.turn t hn.2.2.1,h3.turn t hn.2.2.2.2,A,c,A',c',h4.turn t hn.2.2.2.1,⟨h5.1.ku k,h5.2⟩,h6.ku k⟩
theorem at_not_obj {V:World} {p:Nat} {v:Value} {vs:List Value} (h:At V p (v :: vs)) {o:Obj} (ho:V.heap[p]? = some o):o.isCells=true:=by
 have h1:=h.c0
 unfold World.cell? at h1
 rw [ho] at h1
 cases o with
 | cells cs t fr=>rfl
 | _=>cases h1
theorem FBox.own {row:Option Nat} (h:FBox q0 q1 q2 q3 qb g A1 n1 c1 A2 n2 c2 A3 n3 c3 b q V) (hg:V.grownBy V' row) (hr:∀ r,row=some r → ∃ o:Obj,V.heap[r]? = some o∧o.isCells=false):FBox q0 q1 q2 q3 qb g A1 n1 c1 A2 n2 c2 A3 n3 c3 b q V':=by
 have hne:∀ {p:Nat} {v:Value} {vs:List Value},At V p (v :: vs)→p ∉ row.toList:=fun {p v vs} ha hm=>by
  cases row with
  | none=>cases hm
  | some r =>
    have e:p=r:=by simpa using hm
    obtain ⟨o,ho,hc⟩:=hr r rfl
    rw [← e] at ho
    rw [at_not_obj ha ho] at hc
    cases hc
 obtain ⟨A,c,A',c',h4,_⟩:=h.num
 exact h.turn (Turn.grown hg) (KU.own hg hr) ⟨hne h.b0,hne h.b1,hne h.b2,hne h4,hne h.bb⟩
theorem FBox.put {q':Rat} {A c A' c'} (h:FBox q0 q1 q2 q3 qb g A1 n1 c1 A2 n2 c2 A3 n3 c3 b q V) (hq:q3 ≠ q0∧q3 ≠ q1∧q3 ≠ q2∧q3 ≠ qb) (hz:ZA V false A (dl q'.num.natAbs) c q'.num) (hd:Nm V A' (dl q'.den) c' q'.den) :
 FBox q0 q1 q2 q3 qb g A1 n1 c1 A2 n2 c2 A3 n3 c3 b q' (((V.setCell ⟨q3,0,none⟩ (.bool false)).setCell ⟨q3,1,none⟩ (.slice A (dl q'.num.natAbs) c)).setCell ⟨q3,2,none⟩ (.slice A' (dl q'.den) c')):=by
 obtain ⟨B,e,B',e',h4,_⟩:=h.num
 exact ⟨h.b0.far3 hq.1 _ _ _,h.b1.far3 hq.2.1 _ _ _,h.b2.far3 hq.2.2.1 _ _ _,h.bb.far3 hq.2.2.2 _ _ _,A,c,A',c',h4.put3 _ _ _,hz.put3 h4,hd.put3 h4 now3⟩
theorem FBox.cells (h:FBox q0 q1 q2 q3 qb g A1 n1 c1 A2 n2 c2 A3 n3 c3 b q V):∃ A c A' c',V.cell? ⟨q3,0,none⟩=some (.bool false)∧V.cell? ⟨q3,1,none⟩=some (.slice A (dl q.num.natAbs) c)∧V.cell? ⟨q3,2,none⟩=some (.slice A' (dl q.den) c') ∧
 V.frozen? ⟨q3,0,none⟩=false∧V.frozen? ⟨q3,1,none⟩=false∧V.frozen? ⟨q3,2,none⟩=false∧q3 < V.heap.size∧ZA V false A (dl q.num.natAbs) c q.num∧Nm V A' (dl q.den) c' q.den:=by
 obtain ⟨A,c,A',c',h4,h5,h6⟩:=h.num
 exact ⟨A,c,A',c',h4.c0,h4.c1,h4.c2,h4.f0,h4.f1,h4.f2,h4.lt,h5,h6⟩
end
def bitsOf:Nat→List Nat
 | 5=>[8,4,2,1]
 | 4=>[4,2,1]
 | 3=>[2,1]
 | 2=>[1]
 | _=>[]
def bOf:Nat→Nat
 | 5=>8
 | 4=>4
 | 3=>2
 | 2=>1
 | _=>0
def kOf:Nat→Nat
 | 5=>1
 | 4=>122
 | 3=>364
 | 2=>848
 | _=>1816
theorem bits_step:∀ m,1≤m→m≤4→bitsOf (m + 1)=bOf (m + 1) :: bitsOf m∧bOf (m + 1) / 2=bOf m∧2 * kOf (m + 1) + 120≤kOf m∧bOf (m + 1) ∈ [(8:Nat),4,2,1]∧kOf m≤1816:=by
 intro m h1 h2
 have:m=1 ∨ m=2 ∨ m=3 ∨ m=4:=by omega
 rcases this with rfl | rfl | rfl | rfl <;> decide
theorem turned_pos {N:Nat} {T:Tb} {z:AL × Int} (ok:OkT N T) {m:Ent} (hm:lookL T.ents z.1.2.1=some m) (hs:z.2=1 ∨ z.2 = -1):0 < T.turned z∧Bd (T.turned z) 15:=by
 obtain ⟨⟨ap,an,pw⟩,sg⟩:=z
 obtain ⟨h1,h2⟩:=Tb.one_pos (ap:=ap) (pw:=pw) ok hm
 unfold Tb.turned
 rcases hs with rfl | rfl
 ·rw [show powD (T.one ((ap,an,pw),(1:Int)).1) ((ap,an,pw),(1:Int)).2=T.one (ap,an,pw) from by rw [show (((ap,an,pw),(1:Int)):AL × Int).2=1 from rfl,powD_one];simp]
  exact ⟨h1,h2⟩
 ·rw [show powD (T.one ((ap,an,pw),(-1:Int)).1) ((ap,an,pw),(-1:Int)).2=(T.one (ap,an,pw))⁻¹ from by rw [show (((ap,an,pw),(-1:Int)):AL × Int).2 = -1 from rfl,powD_neg];simp]
  exact ⟨Rat.inv_pos.2 h1,bd_invT h2 h1⟩
theorem sg_sign {l l':List AL} {k:Nat} {z:AL × Int} (h:(sgA (l,l'))[k]? = some z):z.2=1 ∨ z.2 = -1:=by
 have:=List.mem_of_getElem? h
 unfold sgA at this
 rcases List.mem_append.1 this with h | h
 ·obtain ⟨a,ha,rfl⟩:=List.mem_map.1 h;exact .inl rfl
 ·obtain ⟨a,ha,rfl⟩:=List.mem_map.1 h;exact .inr rfl
theorem mk_pos {κ:Nat} (h:0 < κ):0 < mkRat 1 κ:=by
 rw [Rat.mkRat_eq_div,Rat.div_def]
 have h1:(0:Rat) < (κ:Rat):=by exact_mod_cast h
 exact Rat.mul_pos (by decide) (Rat.inv_pos.2 h1)
def onlyN (Q:Exit→Act→World→Prop):Exit→Act→World→Prop:=fun e a w=>match e with
 | .normal=>Q .normal a w
 | _=>False
theorem only_wp {P:Program} {c:Code} {Q:Exit→Act→World→Prop} {a:Act} {w:World} (h:c.wp P (onlyN Q) a w):c.wp P Q a w:=Code.wp_mono (fun e a w h=>by cases e <;> first | exact h | exact h.elim) h
theorem onlyN_mk {Q:Exit→Act→World→Prop} {a:Act} {w:World} (h:Q .normal a w):onlyN Q .normal a w:=h
theorem FBox.farz {q0 q1 q2 q3 qb b q':Nat} {q:Rat} {V:World} (h:FBox q0 q1 q2 q3 qb g A1 n1 c1 A2 n2 c2 A3 n3 c3 b q V) (hz:At V q' [.bool false,.slice none 0 0,.slice none 0 0]) (hn:q' ≠ q0∧q' ≠ q1∧q' ≠ q2∧q' ≠ q3∧q' ≠ qb) {b0:Bool} {B B':Option Addr} {k d k' d':Nat} :
 FBox q0 q1 q2 q3 qb g A1 n1 c1 A2 n2 c2 A3 n3 c3 b q (((V.setCell ⟨q',0,none⟩ (.bool b0)).setCell ⟨q',1,none⟩ (.slice B k d)).setCell ⟨q',2,none⟩ (.slice B' k' d')):=by
 obtain ⟨h0,h1,h2,h3,A,c,A',c',h4,h5,h6⟩:=h
 exact ⟨h0.far3 hn.1 _ _ _,h1.far3 hn.2.1 _ _ _,h2.far3 hn.2.2.1 _ _ _,h3.far3 hn.2.2.2.2 _ _ _,A,c,A',c',h4.far3 hn.2.2.2.1 _ _ _,h5.put3 hz,h6.put3 hz now3⟩
theorem tfactor_h {κ:Nat} (h:LdM base W g p y x T) (ok:OkT N T) (hp:PtR W A1 n1 A2 n2 l l') (hc:Nm W A3 n3 c3 κ) (hκ0:0 < κ) (hκ:κ < W32 ^ 11) (hlen:l.length + l'.length≤8)
 (hk:∀ a ∈ l ++ l',(∃ m,lookL T.ents a.2.1=some m)∧0≤a.2.2∧a.2.2 < 16) :
 Calls Tryz.prog 185 #[.pointer (some ⟨g,0,none⟩),.agg #[.slice A1 n1 c1,.slice A2 n2 c2,.slice A3 n3 c3]] W (QRw W false (([8,4,2,1].foldl (T.bitF (sgA (l,l'))) 1) * mkRat 1 κ)):=by
 refine (callsIn_wide (n:=9)).1 ?_
 obtain ⟨res,hres⟩:∃ r,([8,4,2,1].foldl (T.bitF (sgA (l,l'))) 1)=r:=⟨_,rfl⟩
 rw [hres]
 have HRS0:=khide hres
 clear hres
 have CS:=khide (sgn_call 8)
 have HL:=khide h
 have HP:=khide hp
 have HC:=khide hc
 have HOK:=khide ok
 have HK:=khide hk
 have CI:Hid (∀ X:World,CallsIn Fence.wide 8 Tryz.prog 123 #[.int .i64 1] X (QRw X false 1)):=fun X=>callsIn_wide.2 (by
  have h1:=int_h (W:=X) (k:=1) (by omega) (by omega)
  exact h1)
 refine callsIn_of_wp_marks Tryz.func185 rfl trivial ?_ rfl
 simp only [Tryz.ntmps185,List.size_toArray,List.length_cons,List.length_nil,Nat.reduceAdd,Nat.reduceSub,Array.replicate_succ,Array.replicate_zero,List.push_toArray,List.append_toArray,List.nil_append,List.cons_append]
 clear h hp hc ok hk
 have HB:=Bel.refl W
 gi_wp2_with (first | (refine ⟨trivial,?_⟩;gi_at_call 123;(with_reducible refine (CI.out _).mono ?_);rintro e w1 ⟨IA,ic,IB,id,rfl,iz,inn,hb1⟩) | fail)
 obtain ⟨W0,hW0⟩:∃ X,X=(w1.alloc (.cells #[.bool false,.slice IA (dl 1) ic,.slice IB (dl 1) id] 51)).alloc (.cells #[.int .i64 8] 3):=⟨_,rfl⟩
 rw [← hW0]
 have hA0:At w1 W.heap.size [.pointer (some ⟨g,0,none⟩)]:=(((at_new0 _ _ _).al _).al _).up hb1
 have hA1:At w1 (W.heap.size + 1) [.slice A1 n1 c1,.slice A2 n2 c2,.slice A3 n3 c3]:=((at_new1 _ _ _ _).al _).up hb1
 have hA2:At w1 (W.heap.size + 1 + 1) [.bool false,.slice none 0 0,.slice none 0 0]:=(at_new2 _ _ _ _ _).up hb1
 have hBw1:Bel W w1:=(((Bel.refl W).al _).al _ |>.al _).up hb1
 have hFB:FBox W.heap.size (W.heap.size + 1) (W.heap.size + 1 + 1) w1.heap.size (w1.heap.size + 1) g A1 n1 c1 A2 n2 c2 A3 n3 c3 8 1 W0:=by
  rw [hW0]
  exact ⟨(hA0.al _).al _,(hA1.al _).al _,(hA2.al _).al _,at_new1 _ _ _ _,IA,ic,IB,id,(at_new0 _ _ _).al _,(iz.al _).al _,(inn.al _).al _⟩
 have hB0:Below W.heap.size W W0:=by rw [hW0];exact (hBw1.al _).al _
 have hlt2:W.heap.size + 1 + 1 < w1.heap.size:=hA2.lt
 clear hW0 hb1 iz inn hA0 hA1 hA2 hBw1 HB
 obtain ⟨q3,hq3⟩:∃ q,q=w1.heap.size:=⟨_,rfl⟩
 obtain ⟨qb0,hqb0⟩:∃ q,q=w1.heap.size + 1:=⟨_,rfl⟩
 rw [← hqb0,← hq3] at hFB ⊢
 obtain ⟨q2,hq2⟩:∃ q,q=W.heap.size + 1 + 1:=⟨_,rfl⟩
 rw [← hq2] at hFB ⊢
 obtain ⟨q1,hq1⟩:∃ q,q=W.heap.size + 1:=⟨_,rfl⟩
 rw [← hq1] at hFB ⊢
 obtain ⟨q0,hq0⟩:∃ q,q=W.heap.size:=⟨_,rfl⟩
 rw [← hq0] at hFB
 rw [show Value.pointer (some ⟨W.heap.size,0,none⟩)=Value.pointer (some ⟨q0,0,none⟩) by rw [hq0]]
 have HQ:Hid (W.heap.size≤q0∧q0 < q1∧q1 < q2∧q2 < q3∧q3 < qb0):=by unfold Hid;omega
 clear hq0 hq1 hq2 hq3 hqb0 hlt2
 obtain ⟨xs,hxs⟩:∃ xs,xs=argsA l l':=⟨_,rfl⟩
 obtain ⟨ys,hys⟩:∃ ys,ys=sgA (l,l'):=⟨_,rfl⟩
 have HXL:Hid (xs.length=ys.length∧xs.length≤8):=by rw [hxs,hys];unfold argsA sgA Hid;simp;omega
 have HXS:Hid (∀ k y,xs[k]? = some y → ∃ z,ys[k]? = some z∧y=argA z∧z.1.1.size≤2000000∧z.1.2.1.size≤2000000∧(∃ m,lookL T.ents z.1.2.1=some m)∧0≤z.1.2.2∧z.1.2.2 < 16∧(z.2=1 ∨ z.2 = -1)):=fun k y hk=>by
  rw [hxs] at hk
  obtain ⟨z,h1,h2⟩:=args_at hk
  rw [hys]
  exact ⟨z,h1,h2,(HP.out.s _ (sg_mem h1)).1,(HP.out.s _ (sg_mem h1)).2,(HK.out _ (sg_mem h1)).1,(HK.out _ (sg_mem h1)).2.1,(HK.out _ (sg_mem h1)).2.2,sg_sign h1⟩
 have HSQ:Hid (∀ q6,SeqM Fence.wide 8 Tryz.prog 59 #[.pointer (some ⟨q6,0,none⟩)] (SgAt q6 A1 n1 c1 A2 n2 c2 l l') xs):=fun q6=>hxs ▸ sgn_at HP.out.b.1 HP.out.b.2
 have HRS:Hid (res=(bitsOf 5).foldl (T.bitF ys) 1):=by rw [← HRS0.out,hys];rfl
 clear hxs hys hlen HRS0 HK
 refine wpIn_loop_rounds 5 ?_
 refine rounds_ind (fun m a w=>∃ u7 u8 u9 u10 u11 u12 u13 u14 u15 u16 u17 u18 u19 u20 u21 u22 u23 u24 u25 u26 u27 u28 u29 u30 u31 u32 u33 u34 u35 u36 u37 u38 u39 u40 u41 u42 u43 u44 u45 u46 Ds qb q,a={ tmps:=#[.pointer (some ⟨g,0,none⟩),.agg #[.slice A1 n1 c1,.slice A2 n2 c2,.slice A3 n3 c3],.pointer (some ⟨q0,0,none⟩),.pointer (some ⟨q1,0,none⟩),.pointer (some ⟨q2,0,none⟩),.pointer (some ⟨q3,0,none⟩),.pointer (some ⟨qb,0,none⟩),u7,u8,u9,u10,u11,u12,u13,u14,u15,u16,u17,u18,u19,u20,u21,u22,u23,u24,u25,u26,u27,u28,u29,u30,u31,u32,u33,u34,u35,u36,u37,u38,u39,u40,u41,u42,u43,u44,u45,u46],defers:=Ds.map fun D=>{ target:=.collected D,args:=#[] } }∧res=(bitsOf m).foldl (T.bitF ys) q∧0 < q∧Bd q (kOf m)∧FBox q0 q1 q2 q3 qb g A1 n1 c1 A2 n2 c2 A3 n3 c3 (bOf m) q w∧q3 < qb∧Below W.heap.size W w∧Ds.Nodup∧(∀ D ∈ Ds,W.heap.size≤D∧w.heap[D]? = some (.deferred (some [])))∧1≤m∧m≤5) ?h0 ?hs 5 _ _ ⟨_,_,_,_,_,_,_,_,_,_,_,_,_,_,_,_,_,_,_,_,_,_,_,_,_,_,_,_,_,_,_,_,_,_,_,_,_,_,_,_,[],qb0,1,rfl,HRS.out,by decide,⟨by decide +kernel,by decide +kernel⟩,hFB,HQ.out.2.2.2.2,hB0,List.nodup_nil,(fun D hD=>by cases hD),by decide,by decide⟩
 case h0 =>
  rintro a w ⟨_,_,_,_,_,_,_,_,_,_,_,_,_,_,_,_,_,_,_,_,_,_,_,_,_,_,_,_,_,_,_,_,_,_,_,_,_,_,_,_,_,_,_,_,_,_,_,_,_,_,_,_,h,_⟩
  exact absurd h (by decide)
 case hs =>
  rintro m a w ⟨u7,u8,u9,u10,u11,u12,u13,u14,u15,u16,u17,u18,u19,u20,u21,u22,u23,u24,u25,u26,u27,u28,u29,u30,u31,u32,u33,u34,u35,u36,u37,u38,u39,u40,u41,u42,u43,u44,u45,u46,Ds,qb,q,rfl,hv,hq0,hqB,hfb,hqb,hbel,hnd,hDs,hm1,hm5⟩
  have hb0:=hfb.bb.c0
  have hbl:=hfb.bb.lt
  by_cases hm:m=0
  ·subst hm
   have e0:res=q:=hv
   have d0:decide (0 < bOf (0 + 1))=false:=rfl
   have hb0':w.cell? ⟨qb,0,none⟩=some (.int .i64 0):=hb0
   obtain ⟨un,hun⟩:∃ u,u=mkRat 1 κ:=⟨_,rfl⟩
   have hup:0 < un:=by rw [hun];exact mk_pos hκ0
   have hub:Bd un 11:=by rw [hun];exact tt_bd ⟨hκ0,rfl,by decide,hκ⟩
   obtain ⟨fin,hfin⟩:∃ u,u=q * un:=⟨_,rfl⟩
   have hF:Hid (res * mkRat 1 κ=fin):=by unfold Hid;rw [e0,hfin,hun]
   have hfp:0 < fin:=by rw [hfin];exact Rat.mul_pos hq0 hup
   have hq20:Bd q 2000:=hqB.more (by decide)
   have hu20:Bd un 2000:=hub.more (by decide)
   obtain ⟨k1_,hk1⟩:∃ k,k=dl (1:Int).natAbs:=⟨_,rfl⟩
   have CO:Hid (∀ X:World,Calls Tryz.prog 175 #[.int .i64 1] X fun e w'=>∃ A c,e = .returned (.agg #[.bool false,.slice A k1_ c])∧ZA w' false A k1_ c 1∧Hid (Below X.heap.size X w')):=fun X=>hk1 ▸ zof_h (z:=1) (by omega) (by omega)
   have CR:Hid (∀ (X:World) (A:Option Addr) (c:Nat),ZA X false A k1_ c 1→Nm X A3 n3 c3 κ→Calls Tryz.prog 211 #[.agg #[.bool false,.slice A k1_ c],.agg #[.slice A3 n3 c3]] X (OfYw X false un)):=fun X A c h1 h2=>by
    have h3:=of_yes (r:=un) h1 h2 hκ0 hun.symm (by decide +kernel) (Nat.le_trans (dl_le hκ) (by decide))
    unfold OfYes at h3
    rw [pos_sign hup] at h3
    exact h3
   have CM:Hid (∀ W' b A n c A' n' c' b2 A2 n2 c2 A2' n2' c2',QA W' b A n c A' n' c' q 2000→QA W' b2 A2 n2 c2 A2' n2' c2' un 2000→Calls Tryz.prog 184 #[.agg #[.bool b,.slice A n c,.slice A' n' c'],.agg #[.bool b2,.slice A2 n2 c2,.slice A2' n2' c2']] W' (QRw W' false fin)):=fun W' b A n c A' n' c' b2 A2 n2 c2 A2' n2' c2' h1 h2=>by
    have h3:=rmul_h h1 h2 (by decide) (by decide)
    unfold QR at h3
    rw [← hfin,pos_sign hfp] at h3
    exact h3
   clear hb0 hun hfin hk1 hv hqb hm1 hm5 CI HRS
   gi_wp2_with fail
   refine wpIn_wide.2 (only_wp ?_)
   refine wp_region_held_drew (S:=fun w'=>w'.cell? ⟨q1,2,none⟩=some (.slice A3 n3 c3)) (by kernel_rfl) (hfb.b1.dr.c2) (fun hHeld=>?_)
   refine tq 1 ?_
   refine tq 2 ?_
   refine wpAnyH_ready (rs:=[0,7]) (by decide +kernel) (by simp) ?_
   refine AllReadyH.cons rfl (fun K hK=>?_) (AllReadyH.cons rfl (fun K hK=>?_) AllReadyH.nil)
   ·(go_simp;(go_at_call 175;(with_reducible refine (CO.out _).mono ?_);rintro e w3 ⟨OA,oc,rfl,oz,hb3⟩);refine hK.out _ _ ?_ (fun hHeld=>?_);(focus ((try dsimp only);exact (hfb.b1.dr.up hb3).c2));clear hK K;(try simp only [lay7,Act.put]))
    refine wpAnyH_ready (rs:=[3,7]) (by decide +kernel) (by simp) ?_
    refine AllReadyH.cons rfl (fun K hK=>?_) (AllReadyH.cons rfl (fun K hK=>?_) AllReadyH.nil)
    ·(go_simp;(go_at_call 211;(with_reducible refine (CR.out _ _ _ (oz) (((HC.out.up (khide hbel)).dr).up hb3)).mono ?_);rintro e w4 ⟨UA,uc,UB,ud,rfl,uz,um,hb4⟩);refine hK.out _ _ ?_ (fun hHeld=>?_);(focus ((try dsimp only);exact ((hfb.b1.dr.up hb3).up hb4).c2));clear hK K;(try simp only [lay7,Act.put]))
     refine tq 4 ?_
     refine tq 5 ?_
     refine tq 6 ?_
     (refine sk 7 (fun K hK=>?_);go_simp;refine hK.out _ _ ?_ (fun hHeld=>?_);(focus ((try dsimp only);first | exact (((hfb.b1.dr.up hb3).up hb4).al _).c2 | exact ((hfb.b1.dr.up hb3).up hb4).c2));clear hK K;(try simp only [lay7,Act.put]))
     (refine sk 8 (fun K hK=>?_);go_simp;refine hK.out _ _ ?_ (fun hHeld=>?_);(focus ((try dsimp only);first | exact (((hfb.b1.dr.up hb3).up hb4).al _).c2 | exact ((hfb.b1.dr.up hb3).up hb4).c2));clear hK K;(try simp only [lay7,Act.put]))
     refine tq 9 ?_
     refine wpAnyH_done (by decide +kernel) (onlyN_mk ?_) _
     refine name_at ?_
     intro X hX
     obtain ⟨qk,hqk⟩:∃ q,q=w4.heap.size:=⟨_,rfl⟩
     have hX1:FBox q0 q1 q2 q3 qb g A1 n1 c1 A2 n2 c2 A3 n3 c3 (bOf (0 + 1)) q X:=by rw [hX];exact (((hfb.up ((Below.refl _ _).drew)).up hb3).up hb4).up ((Below.refl _ _).alloc (Nat.le_refl _) _)
     have hK:At X qk [.bool false,.slice UA (dl un.num.natAbs) uc,.slice UB (dl un.den) ud]:=by rw [hX,hqk];exact at_new0 _ _ _
     have uzX:ZA X false UA (dl un.num.natAbs) uc un.num:=by rw [hX];exact uz.al _
     have umX:Nm X UB (dl un.den) ud un.den:=by rw [hX];exact um.al _
     have hbX:Below W.heap.size W X:=by rw [hX];exact Bel.al (Bel.up (Bel.up (Bel.dr hbel) hb3) hb4) _
     have hkX:KeepsOthers w X:=by rw [hX];exact (ko_up (ko_up (KeepsOthers.drew w) hb3) hb4).trans (KeepsOthers.alloc _ _)
     rw [← hqk]
     clear hX hHeld hqk
     obtain ⟨QA_,qc,QB_,qd,k0,k1,k2,_,_,_,kl,qz,qn⟩:=hX1.cells
     have r0:=hK.c0;have r1:=hK.c1;have r2:=hK.c2;have rl:=hK.lt
     gi_wp2_with (first | (refine ⟨trivial,?_⟩;gi_at_call 184;(with_reducible refine (CallsIn.mono (callsIn_wide.2 (CM.out _ _ _ _ _ _ _ _ _ _ _ _ _ _ _ (qa_self qz qn hq20) (qa_self uzX umX hu20))) ?_));rintro e w5 ⟨MA,mc,MB,md,rfl,mz,mn,hb5⟩;have h25:=hX1.b2.up hb5;have s0:=h25.c0;have s1:=h25.c1;have s2:=h25.c2;have s3:=h25.f0;have s4:=h25.f1;have s5:=h25.f2;have s6:=h25.lt) | fail)
     obtain ⟨Y,hY⟩:∃ Y,Y=((w5.setCell ⟨q2,0,none⟩ (.bool false)).setCell ⟨q2,1,none⟩ (.slice MA (dl fin.num.natAbs) mc)).setCell ⟨q2,2,none⟩ (.slice MB (dl fin.den) md):=⟨_,rfl⟩
     have g2:At Y q2 [.bool false,.slice MA (dl fin.num.natAbs) mc,.slice MB (dl fin.den) md]:=by rw [hY];exact h25.put3 _ _ _
     have mzY:ZA Y false MA (dl fin.num.natAbs) mc fin.num:=by rw [hY];exact mz.put3 h25
     have mnY:Nm Y MB (dl fin.den) md fin.den:=by rw [hY];exact mn.put3 h25 now3
     have hbY:Below W.heap.size W Y:=by rw [hY];exact below3 (Bel.up (Bel.of hbX) hb5) (by have:=HQ.out;omega) _ _ _
     have hkY:KeepsOthers w Y:=by rw [hY];exact (((ko_up hkX hb5).trans (KeepsOthers.setCell _ _ _)).trans (KeepsOthers.setCell _ _ _)).trans (KeepsOthers.setCell _ _ _)
     rw [← hY]
     clear hY
     have hDY:∀ D ∈ Ds,Y.heap[D]? = some (.deferred (some [])):=fun D hD=>hkY.same D _ (hDs D hD).2 rfl
     refine leave_all Ds Y hnd hDY (fun w' t=>?_)
     have kt:KU Y w':=KU.turn t (fun r hr=>⟨_,hDY r hr,rfl⟩)
     have hq2D:q2 ∉ Ds:=fun h=>by have h1:=at_not_obj g2 (hDY q2 h);cases h1
     have g3:=g2.turn t hq2D
     have w0:=g3.c0;have w1_:=g3.c1;have w2_:=g3.c2;have w3_:=g3.lt
     refine ⟨.agg #[.bool false,.slice MA (dl fin.num.natAbs) mc,.slice MB (dl fin.den) md],by simp [results,Tryz.results185,go_sem,w0,w1_,w2_,w3_],?_⟩
     rw [hF.out]
     exact ⟨MA,mc,MB,md,rfl,⟨mzY.1.ku kt,mzY.2⟩,mnY.ku kt,hbY.trans (t.below (fun k hk=>(hDs k hk).1) hbY.size)⟩
    ·(go_simp;refine hK.out _ _ ?_ (fun hHeld=>?_);(focus ((try dsimp only);exact ((hfb.b1.dr.up hb3).al _).c2));clear hK K;(try simp only [lay7,Act.put]))
     (refine sk 3 (fun K hK=>?_);go_simp;(go_at_call 211;(with_reducible refine (CR.out _ _ _ (oz.al _) ((((HC.out.up (khide hbel)).dr).up hb3).al _)).mono ?_);rintro e w4 ⟨UA,uc,UB,ud,rfl,uz,um,hb4⟩;have hz4:=At.up (at_new0 w3 [.bool false,.slice none 0 0,.slice none 0 0] 51) hb4;have z0:=hz4.c0;have z1:=hz4.c1;have z2:=hz4.c2;have z3:=hz4.f0;have z4:=hz4.f1;have z5:=hz4.f2;have z6:=hz4.lt;have hne1:w3.heap.size ≠ q1:=Nat.ne_of_gt ((hfb.b1.dr.up hb3).lt));refine hK.out _ _ ?_ (fun hHeld=>?_);(focus ((try dsimp only);exact (((hfb.b1.dr.up hb3).al _).up hb4).c2));clear hK K;(try simp only [lay7,Act.put]))
     refine tq 4 ?_
     refine tq 5 ?_
     refine tq 6 ?_
     (refine sk 8 (fun K hK=>?_);go_simp;refine hK.out _ _ ?_ (fun hHeld=>?_);(focus ((try dsimp only);first | exact (((((hfb.b1.dr.up hb3).al _).up hb4).far3 hne1 _ _ _)).c2 | exact (((hfb.b1.dr.up hb3).al _).up hb4).c2));clear hK K;(try simp only [lay7,Act.put]))
     refine tq 9 ?_
     refine wpAnyH_done (by decide +kernel) (onlyN_mk ?_) _
     refine name_at ?_
     intro X hX
     obtain ⟨qk,hqk⟩:∃ q,q=w3.heap.size:=⟨_,rfl⟩
     have hf3:=(hfb.up ((Below.refl _ _).drew)).up hb3
     have hX1:FBox q0 q1 q2 q3 qb g A1 n1 c1 A2 n2 c2 A3 n3 c3 (bOf (0 + 1)) q X:=by rw [hX];exact ((hf3.up ((Below.refl _ _).alloc (Nat.le_refl _) (.cells #[.bool false,.slice none 0 0,.slice none 0 0] 51))).up hb4).farz hz4 (by have h1:=hf3.b0.lt;have h2:=hf3.b1.lt;have h3:=hf3.b2.lt;have h4:=hf3.bb.lt;obtain ⟨_,_,_,_,h5,_⟩:=hf3.num;have h6:=h5.lt;omega)
     have hK:At X qk [.bool false,.slice UA (dl un.num.natAbs) uc,.slice UB (dl un.den) ud]:=by rw [hX,hqk];exact hz4.put3 _ _ _
     have uzX:ZA X false UA (dl un.num.natAbs) uc un.num:=by rw [hX];exact uz.put3 hz4
     have umX:Nm X UB (dl un.den) ud un.den:=by rw [hX];exact um.put3 hz4 now3
     have hbX:Below W.heap.size W X:=by rw [hX];exact below3 (Bel.up (Bel.al (Bel.up (Bel.dr hbel) hb3) _) hb4) (Nat.le_trans hbel.size hb3.out.size) _ _ _
     have hkX:KeepsOthers w X:=by rw [hX];exact (((ko_up ((ko_up (KeepsOthers.drew w) hb3).trans (KeepsOthers.alloc _ _)) hb4).trans (KeepsOthers.setCell _ _ _)).trans (KeepsOthers.setCell _ _ _)).trans (KeepsOthers.setCell _ _ _)
     rw [← hqk]
     clear hX hHeld hqk
     obtain ⟨QA_,qc,QB_,qd,k0,k1,k2,_,_,_,kl,qz,qn⟩:=hX1.cells
     have r0:=hK.c0;have r1:=hK.c1;have r2:=hK.c2;have rl:=hK.lt
     gi_wp2_with (first | (refine ⟨trivial,?_⟩;gi_at_call 184;(with_reducible refine (CallsIn.mono (callsIn_wide.2 (CM.out _ _ _ _ _ _ _ _ _ _ _ _ _ _ _ (qa_self qz qn hq20) (qa_self uzX umX hu20))) ?_));rintro e w5 ⟨MA,mc,MB,md,rfl,mz,mn,hb5⟩;have h25:=hX1.b2.up hb5;have s0:=h25.c0;have s1:=h25.c1;have s2:=h25.c2;have s3:=h25.f0;have s4:=h25.f1;have s5:=h25.f2;have s6:=h25.lt) | fail)
     obtain ⟨Y,hY⟩:∃ Y,Y=((w5.setCell ⟨q2,0,none⟩ (.bool false)).setCell ⟨q2,1,none⟩ (.slice MA (dl fin.num.natAbs) mc)).setCell ⟨q2,2,none⟩ (.slice MB (dl fin.den) md):=⟨_,rfl⟩
     have g2:At Y q2 [.bool false,.slice MA (dl fin.num.natAbs) mc,.slice MB (dl fin.den) md]:=by rw [hY];exact h25.put3 _ _ _
     have mzY:ZA Y false MA (dl fin.num.natAbs) mc fin.num:=by rw [hY];exact mz.put3 h25
     have mnY:Nm Y MB (dl fin.den) md fin.den:=by rw [hY];exact mn.put3 h25 now3
     have hbY:Below W.heap.size W Y:=by rw [hY];exact below3 (Bel.up (Bel.of hbX) hb5) (by have:=HQ.out;omega) _ _ _
     have hkY:KeepsOthers w Y:=by rw [hY];exact (((ko_up hkX hb5).trans (KeepsOthers.setCell _ _ _)).trans (KeepsOthers.setCell _ _ _)).trans (KeepsOthers.setCell _ _ _)
     rw [← hY]
     clear hY
     have hDY:∀ D ∈ Ds,Y.heap[D]? = some (.deferred (some [])):=fun D hD=>hkY.same D _ (hDs D hD).2 rfl
     refine leave_all Ds Y hnd hDY (fun w' t=>?_)
     have kt:KU Y w':=KU.turn t (fun r hr=>⟨_,hDY r hr,rfl⟩)
     have hq2D:q2 ∉ Ds:=fun h=>by have h1:=at_not_obj g2 (hDY q2 h);cases h1
     have g3:=g2.turn t hq2D
     have w0:=g3.c0;have w1_:=g3.c1;have w2_:=g3.c2;have w3_:=g3.lt
     refine ⟨.agg #[.bool false,.slice MA (dl fin.num.natAbs) mc,.slice MB (dl fin.den) md],by simp [results,Tryz.results185,go_sem,w0,w1_,w2_,w3_],?_⟩
     rw [hF.out]
     exact ⟨MA,mc,MB,md,rfl,⟨mzY.1.ku kt,mzY.2⟩,mnY.ku kt,hbY.trans (t.below (fun k hk=>(hDs k hk).1) hbY.size)⟩
   ·(go_simp;refine hK.out _ _ ?_ (fun hHeld=>?_);(focus ((try dsimp only);first | exact (hfb.b1.dr.al _).c2 | exact (hfb.b1.al _).dr.c2));clear hK K;(try simp only [lay7,Act.put]))
    (refine sk 0 (fun K hK=>?_);go_simp;(go_at_call 175;(with_reducible refine (CO.out _).mono ?_);rintro e w3 ⟨OA,oc,rfl,oz,hb3⟩;have hz3:=At.up ((at_new0 w [.bool false,.slice none 0 0,.slice none 0 0] 51).dr) hb3);refine hK.out _ _ ?_ (fun hHeld=>?_);(focus ((try dsimp only);exact ((hfb.b1.al _).dr.up hb3).c2));clear hK K;(try simp only [lay7,Act.put]))
    (refine sk 3 (fun K hK=>?_);go_simp;(go_at_call 211;(with_reducible refine (CR.out _ _ _ (oz) (((((HC.out.up (khide hbel)).al _).dr).up hb3))).mono ?_);rintro e w4 ⟨UA,uc,UB,ud,rfl,uz,um,hb4⟩;have hz4:=hz3.up hb4;have z0:=hz4.c0;have z1:=hz4.c1;have z2:=hz4.c2;have z3:=hz4.f0;have z4:=hz4.f1;have z5:=hz4.f2;have z6:=hz4.lt;have hne1:w.heap.size ≠ q1:=Nat.ne_of_gt hfb.b1.lt);refine hK.out _ _ ?_ (fun hHeld=>?_);(focus ((try dsimp only);exact (((hfb.b1.al _).dr.up hb3).up hb4).c2));clear hK K;(try simp only [lay7,Act.put]))
    refine tq 4 ?_
    refine tq 5 ?_
    refine tq 6 ?_
    (refine sk 8 (fun K hK=>?_);go_simp;refine hK.out _ _ ?_ (fun hHeld=>?_);(focus ((try dsimp only);first | exact ((((hfb.b1.al _).dr.up hb3).up hb4).far3 hne1 _ _ _).c2 | exact (((hfb.b1.al _).dr.up hb3).up hb4).c2));clear hK K;(try simp only [lay7,Act.put]))
    refine tq 9 ?_
    refine wpAnyH_done (by decide +kernel) (onlyN_mk ?_) _
    refine name_at ?_
    intro X hX
    obtain ⟨qk,hqk⟩:∃ q,q=w.heap.size:=⟨_,rfl⟩
    have hX1:FBox q0 q1 q2 q3 qb g A1 n1 c1 A2 n2 c2 A3 n3 c3 (bOf (0 + 1)) q X:=by rw [hX];exact ((((hfb.up ((Below.refl _ _).alloc (Nat.le_refl _) (.cells #[.bool false,.slice none 0 0,.slice none 0 0] 51))).up ((Below.refl _ _).drew)).up hb3).up hb4).farz hz4 (by have h1:=hfb.b0.lt;have h2:=hfb.b1.lt;have h3:=hfb.b2.lt;have h4:=hfb.bb.lt;obtain ⟨_,_,_,_,h5,_⟩:=hfb.num;have h6:=h5.lt;omega)
    have hK:At X qk [.bool false,.slice UA (dl un.num.natAbs) uc,.slice UB (dl un.den) ud]:=by rw [hX,hqk];exact hz4.put3 _ _ _
    have uzX:ZA X false UA (dl un.num.natAbs) uc un.num:=by rw [hX];exact uz.put3 hz4
    have umX:Nm X UB (dl un.den) ud un.den:=by rw [hX];exact um.put3 hz4 now3
    have hbX:Below W.heap.size W X:=by rw [hX];exact below3 (Bel.up (Bel.up (Bel.dr (Bel.al (Bel.of (khide hbel)) _)) hb3) hb4) hbel.size _ _ _
    have hkX:KeepsOthers w X:=by rw [hX];exact (((ko_up (ko_up ((KeepsOthers.alloc w _).trans (KeepsOthers.drew _)) hb3) hb4).trans (KeepsOthers.setCell _ _ _)).trans (KeepsOthers.setCell _ _ _)).trans (KeepsOthers.setCell _ _ _)
    rw [← hqk]
    clear hX hHeld hqk
    obtain ⟨QA_,qc,QB_,qd,k0,k1,k2,_,_,_,kl,qz,qn⟩:=hX1.cells
    have r0:=hK.c0;have r1:=hK.c1;have r2:=hK.c2;have rl:=hK.lt
    gi_wp2_with (first | (refine ⟨trivial,?_⟩;gi_at_call 184;(with_reducible refine (CallsIn.mono (callsIn_wide.2 (CM.out _ _ _ _ _ _ _ _ _ _ _ _ _ _ _ (qa_self qz qn hq20) (qa_self uzX umX hu20))) ?_));rintro e w5 ⟨MA,mc,MB,md,rfl,mz,mn,hb5⟩;have h25:=hX1.b2.up hb5;have s0:=h25.c0;have s1:=h25.c1;have s2:=h25.c2;have s3:=h25.f0;have s4:=h25.f1;have s5:=h25.f2;have s6:=h25.lt) | fail)
    obtain ⟨Y,hY⟩:∃ Y,Y=((w5.setCell ⟨q2,0,none⟩ (.bool false)).setCell ⟨q2,1,none⟩ (.slice MA (dl fin.num.natAbs) mc)).setCell ⟨q2,2,none⟩ (.slice MB (dl fin.den) md):=⟨_,rfl⟩
    have g2:At Y q2 [.bool false,.slice MA (dl fin.num.natAbs) mc,.slice MB (dl fin.den) md]:=by rw [hY];exact h25.put3 _ _ _
    have mzY:ZA Y false MA (dl fin.num.natAbs) mc fin.num:=by rw [hY];exact mz.put3 h25
    have mnY:Nm Y MB (dl fin.den) md fin.den:=by rw [hY];exact mn.put3 h25 now3
    have hbY:Below W.heap.size W Y:=by rw [hY];exact below3 (Bel.up (Bel.of hbX) hb5) (by have:=HQ.out;omega) _ _ _
    have hkY:KeepsOthers w Y:=by rw [hY];exact (((ko_up hkX hb5).trans (KeepsOthers.setCell _ _ _)).trans (KeepsOthers.setCell _ _ _)).trans (KeepsOthers.setCell _ _ _)
    rw [← hY]
    clear hY
    have hDY:∀ D ∈ Ds,Y.heap[D]? = some (.deferred (some [])):=fun D hD=>hkY.same D _ (hDs D hD).2 rfl
    refine leave_all Ds Y hnd hDY (fun w' t=>?_)
    have kt:KU Y w':=KU.turn t (fun r hr=>⟨_,hDY r hr,rfl⟩)
    have hq2D:q2 ∉ Ds:=fun h=>by have h1:=at_not_obj g2 (hDY q2 h);cases h1
    have g3:=g2.turn t hq2D
    have w0:=g3.c0;have w1_:=g3.c1;have w2_:=g3.c2;have w3_:=g3.lt
    refine ⟨.agg #[.bool false,.slice MA (dl fin.num.natAbs) mc,.slice MB (dl fin.den) md],by simp [results,Tryz.results185,go_sem,w0,w1_,w2_,w3_],?_⟩
    rw [hF.out]
    exact ⟨MA,mc,MB,md,rfl,⟨mzY.1.ku kt,mzY.2⟩,mnY.ku kt,hbY.trans (t.below (fun k hk=>(hDs k hk).1) hbY.size)⟩
  ·obtain ⟨e1,e2,e3,e4,e5⟩:=bits_step m (by omega) (by omega)
   rw [e1,List.foldl_cons] at hv
   obtain ⟨b,hb⟩:∃ b,b=bOf (m + 1):=⟨_,rfl⟩
   obtain ⟨b',hb'⟩:∃ b,b=bOf m:=⟨_,rfl⟩
   obtain ⟨K2,hK2⟩:∃ k,k=2 * kOf (m + 1):=⟨_,rfl⟩
   obtain ⟨K1,hK1⟩:∃ k,k=kOf (m + 1):=⟨_,rfl⟩
   rw [← hb] at hv hfb e4 hb0
   rw [← hb,← hb'] at e2
   obtain ⟨tot,htot⟩:∃ t,t=T.bitF ys q b:=⟨_,rfl⟩
   rw [← htot] at hv
   have HV:=khide hv
   have HTot:Hid (tot=ys.foldl (T.stepF b) (q ^ 2)):=htot
   have HKs:Hid (K2 + 120≤kOf m∧K2=2 * K1∧kOf m≤1816∧0 < K1):=by
    unfold Hid
    have:0 < kOf (m + 1):=by unfold kOf;split <;> decide
    omega
   have CQ:Hid (∀ X A c A' c',ZA X false A (dl q.num.natAbs) c q.num→Nm X A' (dl q.den) c' q.den→CallsIn Fence.wide 8 Tryz.prog 127 #[.agg #[.bool false,.slice A (dl q.num.natAbs) c,.slice A' (dl q.den) c'],.int .i64 2] X (OfYw X false (q ^ 2))):=fun X A c A' c' h1 h2=>callsIn_wide.2 (by
    have hb1:Bd q K1:=by rw [hK1];exact hqB
    have:=HKs.out
    exact rpow_p (k:=2) (qa_self h1 h2 hb1) (Rat.le_of_lt hq0) hb1 (by omega) (by omega) (by omega))
   obtain ⟨qq,hqq⟩:∃ r,r=q ^ 2:=⟨_,rfl⟩
   rw [← hqq] at CQ HTot
   have hb8:0 < b∧b≤8:=by simp at e4;omega
   have dpos:decide ((0:Int) < (b:Int))=true:=decide_eq_true (by omega)
   have dpos2:decide (0 < b)=true:=decide_eq_true (by omega)
   have dquo:IntKind.i64.wrap ((b:Int).tdiv 2)=(b':Int):=by
    rw [← e2];simp at e4;rcases e4 with rfl | rfl | rfl | rfl <;> decide
   have dq2:wrap64 ((b:Int) / 2)=(b':Int):=by
    rw [← e2];unfold wrap64;omega
   have HMM:=khide (show m ≠ 0∧m + 1≤5 from ⟨hm,hm5⟩)
   have HBB:=khide hb'
   have HE4:=khide e4
   have HQ0:=khide hq0
   have hq2:0 < qq:=by rw [hqq];exact Rat.pow_pos hq0
   have hqB2:Bd qq K2:=by
    rw [hqq]
    have h2:Bd (q * q) (K1 + K1):=bd_mulT (hK1 ▸ hqB) (hK1 ▸ hqB)
    rw [show q ^ 2=q * q from by rw [Rat.pow_succ,Rat.pow_succ,Rat.pow_zero,Rat.one_mul]]
    exact h2.more (by have:=HKs.out;omega)
   have HQP:=khide hq2
   have HQB:=khide hqB2
   obtain ⟨PA,pc,PB,pd,g0,g1,g2,gf0,gf1,gf2,gl,gz,gn⟩:=hfb.cells
   have HFB:=khide hfb
   have HDs:=khide hDs
   have a0:=hfb.b0.c0;have a1:=hfb.b1.c0;have a2:=hfb.b1.c1;have a3:=hfb.b1.c2;have al:=hfb.b1.lt
   have n13:q1 ≠ q3:=(by have:=HQ.out;omega)
   clear hqq hv htot hb hb' hK1 hK2 e1 e2 e3 e4 e5 hm hm1 hm5 hqB hqB2 hq2 hq0 hfb hDs hb8
   gi_wp2_with (first
    | (refine ⟨trivial,?_⟩;gi_at_call 127;(with_reducible refine (CQ.out _ _ _ _ _ gz gn).mono ?_);rintro e w2 ⟨XA,xc,XB,xd,rfl,xz,xn,hb2⟩;have hfb2:=HFB.out.up hb2;have hbel2:Below W.heap.size W w2:=hbel.trans (hb2.out.mono hbel.size);have hk2:KeepsOthers w w2:=ko_bel hb2;clear g0 g1 g2 gf0 gf1 gf2 gl a0 a1 a2 a3 al hb0 hbl;obtain ⟨YA,yc,YB,yd,g0,g1,g2,gf0,gf1,gf2,gl,gz2,gn2⟩:=hfb2.cells;have a1:=hfb2.b1.c0;have a2:=hfb2.b1.c1;have a3:=hfb2.b1.c2;have al:=hfb2.b1.lt)
    | (refine ⟨trivial,?_⟩;gi_at_call 32;refine (CS.out _ _ _ _ _ _ _ _ _ _).mono ?_;rintro e w' ⟨rfl,hw⟩;rw [hw];clear hw)
    | fail)
   obtain ⟨V0,hV0⟩:∃ X,X=(((w2.setCell ⟨q3,0,none⟩ (.bool false)).setCell ⟨q3,1,none⟩ (.slice XA (dl qq.num.natAbs) xc)).setCell ⟨q3,2,none⟩ (.slice XB (dl qq.den) xd)).alloc (.cells #[.slice A1 n1 c1,.slice A2 n2 c2,.slice A3 n3 c3] 44):=⟨_,rfl⟩
   rw [← hV0]
   have hfb0:FBox q0 q1 q2 q3 qb g A1 n1 c1 A2 n2 c2 A3 n3 c3 b qq V0:=by rw [hV0];exact (hfb2.put (by have:=HQ.out;omega) xz xn).up ((Below.refl _ _).alloc (Nat.le_refl _) _)
   have h60:At V0 w2.heap.size [.slice A1 n1 c1,.slice A2 n2 c2,.slice A3 n3 c3]:=by rw [hV0];exact at_size (at_new0 _ _ _) (by simp [World.setCell])
   have hk0:KeepsOthers w V0:=by rw [hV0];exact (((hk2.trans (KeepsOthers.setCell _ _ _)).trans (KeepsOthers.setCell _ _ _)).trans (KeepsOthers.setCell _ _ _)).trans (KeepsOthers.alloc _ _)
   have hbe0:Below W.heap.size W V0:=by rw [hV0];exact ((((Bel.of hbel2).setCell (by have:=HQ.out;show W.heap.size≤q3;omega) _).setCell (by have:=HQ.out;show W.heap.size≤q3;omega) _).setCell (by have:=HQ.out;show W.heap.size≤q3;omega) _ |> Bel.al) _
   have hDs0:∀ D ∈ Ds,V0.heap[D]? = some (.deferred (some [])):=fun D hD=>hk0.same D _ (HDs.out D hD).2 rfl
   have HLTs:Hid (∀ D ∈ Ds,D < V0.heap.size):=fun D hD=>(Array.getElem?_eq_some_iff.1 (hDs0 D hD)).1
   obtain ⟨q6,hq6⟩:∃ q,q=w2.heap.size:=⟨_,rfl⟩
   rw [← hq6] at h60 ⊢
   have HQ6:Hid (q3 ≠ q6):=by unfold Hid;rw [hq6];omega
   clear hq6 hV0 hfb2 hbel2 hk2 g0 g1 g2 gf0 gf1 gf2 gl a1 a2 a3 al gz gn gz2 gn2 hbel xz xn hb2
   have hSQ:=HSQ.out q6
   refine wpIn_range_two 23 24 7 8 (gf:=59) (lb:=#[.pointer (some ⟨q6,0,none⟩)]) rfl (by decide) rfl trivial (enters_of Tryz.func59 (by kernel_rfl) rfl) (xs:=xs) hSQ (fun k y hy=>by obtain ⟨z,_,rfl,_⟩:=HXS.out k y hy;rfl)
    (fun k V=>∃ q,tot=(ys.drop k).foldl (T.stepF b) q∧0 < q∧Bd q (K2 + 15 * k)∧FBox q0 q1 q2 q3 qb g A1 n1 c1 A2 n2 c2 A3 n3 c3 b q V∧At V q6 [.slice A1 n1 c1,.slice A2 n2 c2,.slice A3 n3 c3]∧Below W.heap.size W V ∧ ∀ D ∈ Ds,V.heap[D]? = some (.deferred (some [])))
    (fun _ _ _=>False)
    ?hI (fun c k V V' row hh=>hh.elim) (fun k V hh=>by obtain ⟨_,_,_,_,_,h2,h3,_⟩:=hh;exact HP.out.sg h3 h2) ⟨qq,by rw [List.drop_zero];exact HTot.out,HQP.out,HQB.out,hfb0,h60,hbe0,hDs0⟩ (fun y=>(y.getD 0 undef).cells.toList) 96
    ?assign ?body ?done (fun D c k V hD hh=>hh.elim)
   case hI =>
    rintro k V V' row ⟨q,h1,h2,h3,h4,h5,h6,h7⟩ hg hrow
    have hr:∀ r,row=some r → ∃ o:Obj,V.heap[r]? = some o∧o.isCells=false:=fun r e=>(hrow r e).2
    refine ⟨q,h1,h2,h3,h4.own hg hr,?_,h6.grown hg h6.size (fun r e=>by have:=(hrow r e).1;have:=hbe0.size;omega),fun D hD=>(hg.block D (Array.getElem?_eq_some_iff.1 (h7 D hD)).1 (fun e=>by have:=(hrow D e.symm).1;have:=HLTs.out D hD;omega)).trans (h7 D hD)⟩
    exact h5.own hg (fun r e=>by have:=(hrow r e).1;have:=h60.lt;omega)
   case assign =>
    intro li k y V K hy hK
    obtain ⟨z,_,rfl,_⟩:=HXS.out k y hy
    unfold argA at hK ⊢
    simp only [lay7] at hK
    gi_wp2
    exact hK
   case body =>
    rintro li k y V bx ⟨q,hv0,hq0,hqB,hbx,h6,hbel,hDs⟩ hy hbq hAb
    obtain ⟨⟨⟨ap,an,pw⟩,sg⟩,hz,rfl,hs1,hs2,⟨mm,hmm⟩,hp0,hp1,hsg⟩:=HXS.out k y hy
    have hdr:ys.drop k=(((ap,an,pw),sg):AL × Int) :: ys.drop (k + 1):=by
     rw [List.drop_eq_getElem_cons (List.getElem?_eq_some_iff.1 hz).1,(List.getElem?_eq_some_iff.1 hz).2]
    rw [hdr,List.foldl_cons] at hv0
    have hkl:k < 8:=by
     have h1:=(List.getElem?_eq_some_iff.1 hz).1
     have h2:=HXL.out
     omega
    replace hAb:At V bx [.string ap,.string an,.int .i64 pw]:=hAb
    have hband:=and_flag (pw:=pw) (j:=b) hp0 hp1 HE4.out
    obtain ⟨fl,hfl⟩:∃ f,bitD b pw=f:=⟨_,rfl⟩
    have hst:T.stepF b q ((ap,an,pw),sg)=if fl=true then q * T.turned ((ap,an,pw),sg) else q:=by unfold Tb.stepF;rw [hfl]
    rw [hst] at hv0
    rw [hfl] at hband
    rw [show (argA ((ap,an,pw),sg)).getD 1 undef = .int .i64 sg from rfl,show (argA ((ap,an,pw),sg)).getD 0 undef = .agg #[.string ap,.string an,.int .i64 pw] from rfl]
    simp only [lay7]
    have b2:=hAb.c2
    have b3:=hbx.bb.c0
    cases fl
    ·have HV1:Hid (tot=(ys.drop (k + 1)).foldl (T.stepF b) q):=hv0
     have HB1:Hid (Bd q (K2 + 15 * (k + 1))):=hqB.more (by omega)
     have HQ1:=khide hq0
     clear hv0 hqB hdr hst hfl hmm hs1 hs2 hp0 hp1 hsg hz hq0
     gi_wp2
     exact ⟨KeepsOthers.refl _,q,HV1.out,HQ1.out,HB1.out,hbx,h6,hbel,hDs⟩
    ·obtain ⟨t,ht⟩:∃ r,r=T.turned ((ap,an,pw),sg):=⟨_,rfl⟩
     obtain ⟨tp,tb⟩:=turned_pos HOK.out (z:=((ap,an,pw),sg)) hmm hsg
     rw [← ht] at tp tb hv0
     obtain ⟨qt,hqt⟩:∃ r,r=q * t:=⟨_,rfl⟩
     rw [if_pos rfl,← hqt] at hv0
     have hqb15:Bd q (K2 + 15 * k + 15):=hqB.more (by omega)
     have htb15:Bd t (K2 + 15 * k + 15):=tb.more (by omega)
     have HPos:Hid (0 < qt):=by rw [hqt];exact Rat.mul_pos hq0 tp
     have HBd:Hid (Bd qt (K2 + 15 * (k + 1))):=by
      rw [hqt];exact (bd_mulT hqB tb).more (by omega)
     have HV1:Hid (tot=(ys.drop (k + 1)).foldl (T.stepF b) qt):=hv0
     have hKK:0 < K2 + 15 * k + 15∧K2 + 15 * k + 15≤20000:=by have:=HKs.out;omega
     have CT:Hid (∀ X,Below W.heap.size W X→Calls Tryz.prog 215 #[.pointer (some ⟨g,0,none⟩),.agg #[.string ap,.string an,.int .i64 pw],.int .i64 sg] X (QRw X false t)):=fun X hX=>ht ▸ tturned_h (HL.out.up hX) HOK.out hmm hs1 hs2 hsg
     have CM:Hid (∀ W' b A n c A' n' c' b2 A2 n2 c2 A2' n2' c2',QA W' b A n c A' n' c' q (K2 + 15 * k + 15)→QA W' b2 A2 n2 c2 A2' n2' c2' t (K2 + 15 * k + 15)→Calls Tryz.prog 184 #[.agg #[.bool b,.slice A n c,.slice A' n' c'],.agg #[.bool b2,.slice A2 n2 c2,.slice A2' n2' c2']] W' (QRw W' false qt)):=fun W' b A n c A' n' c' b2 A2 n2 c2 A2' n2' c2' h1 h2=>by
      have h3:=rmul_h h1 h2 hKK.1 hKK.2
      unfold QR at h3
      rw [← hqt,pos_sign HPos.out] at h3
      exact h3
     obtain ⟨PA,pc,PB,pd,hP,hPz,hPn⟩:=hbx.num
     have HSA:Hid (∀ w':World,At w' q0 [.pointer (some ⟨g,0,none⟩)]→At w' bx [.string ap,.string an,.int .i64 pw]→w'.cell? ⟨q0,0,none⟩=some (.pointer (some ⟨g,0,none⟩))∧w'.cell? ⟨bx,0,none⟩=some (.string ap)∧w'.cell? ⟨bx,1,none⟩=some (.string an)∧w'.cell? ⟨bx,2,none⟩=some (.int .i64 pw)):=fun w' h1 h2=>⟨h1.c0,h2.c0,h2.c1,h2.c2⟩
     have hbd:Below W.heap.size W V.drew:=Bel.dr hbel
     have hne:q3 ≠ bx:=by have h1:=hP.lt;have h2:=(HFB.out).num;intro e;rw [e] at hP;have h3:=hP.c0;rw [hAb.c0] at h3;cases h3
     have x0_:=hP.c0;have x1_:=hP.c1;have x2_:=hP.c2;have xl_:=hP.lt
     clear hv0 hqB tb hdr hst hfl hmm hs1 hs2 hp0 hp1 hsg hz hq0 tp hqt ht hKK
     gi_wp2_with fail
     clear b2 b3 hband
     refine wpIn_region_held_drew (S:=fun w'=>w'.cell? ⟨q0,0,none⟩=some (.pointer (some ⟨g,0,none⟩))∧w'.cell? ⟨bx,0,none⟩=some (.string ap)∧w'.cell? ⟨bx,1,none⟩=some (.string an)∧w'.cell? ⟨bx,2,none⟩=some (.int .i64 pw)) (by kernel_rfl) (by rfl) (fun ⟨_,_,h⟩=>h) (HSA.out _ hbx.b0.dr hAb.dr) (fun hHeld=>?_)
     refine tq 1 ?_
     refine tq 2 ?_
     refine tq 3 ?_
     refine wpAnyH_ready (rs:=[0,4]) (by decide +kernel) (by simp) ?_
     refine AllReadyH.cons rfl (fun K hK=>?_) (AllReadyH.cons rfl (fun K hK=>?_) AllReadyH.nil)
     ·(go_simp;refine hK.out _ _ ?_ (fun hHeld=>?_);(focus ((try dsimp only);exact HSA.out _ hbx.b0.dr hAb.dr));clear hK K;(try simp only [lay7,Act.put]))
      (refine sk 4 (fun K hK=>?_);go_simp;(go_at_call 215;(with_reducible refine (CT.out _ hbd).mono ?_);rintro e w4 ⟨RA,rc,RB,rd,rfl,rz,rn,hb4⟩;have p0:=(hP.dr.up hb4).c0;have p1:=(hP.dr.up hb4).c1;have p2:=(hP.dr.up hb4).c2;have pl:=(hP.dr.up hb4).lt);refine hK.out _ _ ?_ (fun hHeld=>?_);(focus ((try dsimp only);exact HSA.out _ (hbx.b0.dr.up hb4) (hAb.dr.up hb4)));clear hK K;(try simp only [lay7,Act.put]))
      (refine sk 5 (fun K hK=>?_);go_simp;(go_at_call 184;(with_reducible refine (CM.out _ _ _ _ _ _ _ _ _ _ _ _ _ _ _ (qa_self (hPz.dr.up hb4) (hPn.dr.up hb4) hqb15) (qa_self rz rn htb15)).mono ?_);rintro e w5 ⟨MA,mc,MB,md,rfl,mz,mn,hb5⟩;have x0:=((hP.dr.up hb4).up hb5).c0;have x1:=((hP.dr.up hb4).up hb5).c1;have x2:=((hP.dr.up hb4).up hb5).c2;have xl:=((hP.dr.up hb4).up hb5).lt;have xf0:=((hP.dr.up hb4).up hb5).f0;have xf1:=((hP.dr.up hb4).up hb5).f1;have xf2:=((hP.dr.up hb4).up hb5).f2);refine hK.out _ _ ?_ (fun hHeld=>?_);(focus ((try dsimp only);exact HSA.out _ ((hbx.b0.dr.up hb4).up hb5) ((hAb.dr.up hb4).up hb5)));clear hK K;(try simp only [lay7,Act.put]))
      (refine sk 6 (fun K hK=>?_);go_simp;refine hK.out _ _ ?_ (fun hHeld=>?_);(focus ((try dsimp only);exact HSA.out _ (((hbx.b0.dr.up hb4).up hb5).far3 (by have:=HQ.out;omega) _ _ _) (((hAb.dr.up hb4).up hb5).far3 (by have:=HQ.out;omega) _ _ _)));clear hK K;(try simp only [lay7,Act.put]))
      refine wpAnyH_done (by decide +kernel) ?_ _
      refine name_at ?_
      intro V1 hV1
      have hfb:FBox q0 q1 q2 q3 qb g A1 n1 c1 A2 n2 c2 A3 n3 c3 b qt V1:=by rw [hV1];exact ((hbx.up (Below.refl _ _).drew).up hb4 |>.up hb5).put (by have:=HQ.out;omega) mz mn
      have h66:At V1 q6 [.slice A1 n1 c1,.slice A2 n2 c2,.slice A3 n3 c3]:=by rw [hV1];exact (((h6.dr.up hb4).up hb5).far3 HQ6.out _ _ _)
      have hk1:KeepsOthers V V1:=by rw [hV1];exact (((ko_up (ko_up (KeepsOthers.drew V) hb4) hb5).trans (KeepsOthers.setCell _ _ _)).trans (KeepsOthers.setCell _ _ _)).trans (KeepsOthers.setCell _ _ _)
      have hbe1:Below W.heap.size W V1:=by rw [hV1];exact (((((Bel.up (Bel.up (Bel.dr hbel) hb4) hb5)).setCell (by have:=HQ.out;show W.heap.size≤q3;omega) _).setCell (by have:=HQ.out;show W.heap.size≤q3;omega) _).setCell (by have:=HQ.out;show W.heap.size≤q3;omega) _)
      clear hV1 hHeld
      gi_wp2
      exact ⟨hk1,qt,HV1.out,HPos.out,HBd.out,hfb,h66,hbe1,fun D hD=>hk1.same D _ (hDs D hD) rfl⟩
     ·(go_simp;(go_at_call 215;(with_reducible refine (CT.out _ hbd).mono ?_);rintro e w4 ⟨RA,rc,RB,rd,rfl,rz,rn,hb4⟩;have p0:=(hP.dr.up hb4).c0;have p1:=(hP.dr.up hb4).c1;have p2:=(hP.dr.up hb4).c2;have pl:=(hP.dr.up hb4).lt);refine hK.out _ _ ?_ (fun hHeld=>?_);(focus ((try dsimp only);exact HSA.out _ (hbx.b0.dr.up hb4) (hAb.dr.up hb4)));clear hK K;(try simp only [lay7,Act.put]))
      (refine sk 0 (fun K hK=>?_);go_simp;refine hK.out _ _ ?_ (fun hHeld=>?_);(focus ((try dsimp only);exact HSA.out _ (hbx.b0.dr.up hb4) (hAb.dr.up hb4)));clear hK K;(try simp only [lay7,Act.put]))
      (refine sk 5 (fun K hK=>?_);go_simp;(go_at_call 184;(with_reducible refine (CM.out _ _ _ _ _ _ _ _ _ _ _ _ _ _ _ (qa_self (hPz.dr.up hb4) (hPn.dr.up hb4) hqb15) (qa_self rz rn htb15)).mono ?_);rintro e w5 ⟨MA,mc,MB,md,rfl,mz,mn,hb5⟩;have x0:=((hP.dr.up hb4).up hb5).c0;have x1:=((hP.dr.up hb4).up hb5).c1;have x2:=((hP.dr.up hb4).up hb5).c2;have xl:=((hP.dr.up hb4).up hb5).lt;have xf0:=((hP.dr.up hb4).up hb5).f0;have xf1:=((hP.dr.up hb4).up hb5).f1;have xf2:=((hP.dr.up hb4).up hb5).f2);refine hK.out _ _ ?_ (fun hHeld=>?_);(focus ((try dsimp only);exact HSA.out _ ((hbx.b0.dr.up hb4).up hb5) ((hAb.dr.up hb4).up hb5)));clear hK K;(try simp only [lay7,Act.put]))
      (refine sk 6 (fun K hK=>?_);go_simp;refine hK.out _ _ ?_ (fun hHeld=>?_);(focus ((try dsimp only);exact HSA.out _ (((hbx.b0.dr.up hb4).up hb5).far3 (by have:=HQ.out;omega) _ _ _) (((hAb.dr.up hb4).up hb5).far3 (by have:=HQ.out;omega) _ _ _)));clear hK K;(try simp only [lay7,Act.put]))
      refine wpAnyH_done (by decide +kernel) ?_ _
      refine name_at ?_
      intro V1 hV1
      have hfb:FBox q0 q1 q2 q3 qb g A1 n1 c1 A2 n2 c2 A3 n3 c3 b qt V1:=by rw [hV1];exact ((hbx.up (Below.refl _ _).drew).up hb4 |>.up hb5).put (by have:=HQ.out;omega) mz mn
      have h66:At V1 q6 [.slice A1 n1 c1,.slice A2 n2 c2,.slice A3 n3 c3]:=by rw [hV1];exact (((h6.dr.up hb4).up hb5).far3 HQ6.out _ _ _)
      have hk1:KeepsOthers V V1:=by rw [hV1];exact (((ko_up (ko_up (KeepsOthers.drew V) hb4) hb5).trans (KeepsOthers.setCell _ _ _)).trans (KeepsOthers.setCell _ _ _)).trans (KeepsOthers.setCell _ _ _)
      have hbe1:Below W.heap.size W V1:=by rw [hV1];exact (((((Bel.up (Bel.up (Bel.dr hbel) hb4) hb5)).setCell (by have:=HQ.out;show W.heap.size≤q3;omega) _).setCell (by have:=HQ.out;show W.heap.size≤q3;omega) _).setCell (by have:=HQ.out;show W.heap.size≤q3;omega) _)
      clear hV1 hHeld
      gi_wp2
      exact ⟨hk1,qt,HV1.out,HPos.out,HBd.out,hfb,h66,hbe1,fun D hD=>hk1.same D _ (hDs D hD) rfl⟩
   case done =>
    rintro D V hD ⟨q,hv0,hq0,hqB,hbx,h6,hbel,hDs⟩ hK
    have HV1:Hid (tot=q):=by rw [hv0,List.drop_of_length_le (by rw [HXL.out.1];exact Nat.le_refl _)];rfl
    have hqK:Bd q (kOf m):=hqB.more (by have:=HXL.out.2;have:=HKs.out;omega)
    have b3:=hbx.bb.c0
    have bl:=hbx.bb.lt
    have HN:Hid (∀ E ∈ D :: Ds,W.heap.size≤E∧V.heap[E]? = some (.deferred (some []))):=fun E hE=>by
     rcases List.mem_cons.1 hE with e | h
     ·rw [e];exact ⟨Nat.le_trans hbe0.size hD,hK⟩
     ·exact ⟨(HDs.out E h).1,hDs E h⟩
    have HND:Hid ((D :: Ds).Nodup):=List.nodup_cons.2 ⟨fun h=>by have:=HLTs.out D h;omega,hnd⟩
    have HBX:=khide hbx
    have HQK:=khide hqK
    have HQP0:=khide hq0
    clear hv0 hqB hqK hq0 hK hDs hbx
    gi_wp2
    have hfn:FBox q0 q1 q2 q3 V.heap.size g A1 n1 c1 A2 n2 c2 A3 n3 c3 b' q (V.alloc (.cells #[.int .i64 (b':Int)] 3)):=by
     obtain ⟨h0,h1,h2,h3,A,c,A',c',h4,h5,h6⟩:=HBX.out
     exact ⟨h0.al _,h1.al _,h2.al _,at_new0 _ _ _,A,c,A',c',h4.al _,h5.al _,h6.al _⟩
    have hq3V:q3 < V.heap.size:=by obtain ⟨A,c,A',c',h4,_⟩:=HBX.out.num;exact h4.lt
    refine ⟨_,_,_,_,_,_,_,_,_,_,_,_,_,_,_,_,_,_,_,_,_,_,_,_,_,_,_,_,_,_,_,_,_,_,_,_,_,_,_,_,D :: Ds,V.heap.size,q,rfl,by rw [← HV1.out];exact HV.out,HQP0.out,HQK.out,?_,hq3V,Bel.al (Bel.of hbel) _,HND.out,fun E hE=>⟨(HN.out E hE).1,(Below.heap_alloc V _ E (Array.getElem?_eq_some_iff.1 (HN.out E hE).2).1).trans (HN.out E hE).2⟩,by have:=HMM.out;omega,by have:=HMM.out;omega⟩
    rw [← HBB.out]
    exact hfn
end
end Go.Proofs.YtfflmmbhpchloaaGreatDoor
end
