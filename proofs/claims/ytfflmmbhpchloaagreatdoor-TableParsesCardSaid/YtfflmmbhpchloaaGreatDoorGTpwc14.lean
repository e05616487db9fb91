/- Each theorem here says its own conditions. -/
import Derived.Test.YtfflmmbhpchloaaGreatDoorGTpwc13
import Derived.Laws.AppendOwnNone
import Derived.Deep.OwnRows
import Derived.BigRegion
import Derived.Deep.RegionLaw
set_option maxRecDepth 100000
set_option maxHeartbeats 16000000
section
open Go.RowKit
namespace Go.Proofs.YtfflmmbhpchloaaGreatDoor
theorem infoAtomP:(Tryz.prog.info? 96).map (fun i=>(i.zero,i.size,i.bytes))=some (some (.agg #[.string ByteArray.empty,.string ByteArray.empty,.int .i64 0]),3,40):=by kernel_rfl
def AtomsP (W:World) (r:Option (List AL)) (e:Ending) (w':World):Prop:=match r with
 | none=>e = .returned (.tuple #[.slice none 0 0,.bool false])∧Bel W w'
 | some l=>∃ A c,e = .returned (.tuple #[.slice A l.length c,.bool true])∧(A=none→c=0)∧Hid (w'.ownsRow W.heap.size 96 3 (.slice A l.length c) l.length (cellsA l))∧Bel W w'
theorem patoms_any {A B D:Option Addr} {n c m d j g:Nat} {names ps l:List ByteArray} {w:World} (h:Ss w A names) (hn:n=names.length) (hl:n≤1000000) (h':Ss w B ps) (hm:m=ps.length) (hl':m≤1000000) (h2:Ss w D l) (hj:j=l.length) (hjg:j≤g) (hjl:j≤1000000) (hu:∀ x ∈ l,x.size≤140737488355328) {res:Option (List AL)} (hres:atomsL names ps l=res) :
 Calls Tryz.prog 97 #[.agg #[.slice A n c,.slice B m d],.slice D j g] w (AtomsP w res):=by
 obtain ⟨W1,hW1⟩:∃ X,X=w.alloc (.cells #[.slice A n c,.slice B m d] 62):=⟨_,rfl⟩
 have HA:At W1 w.heap.size [.slice A n c,.slice B m d]:=by rw [hW1];exact at_new0 _ _ _
 have HBW:Bel w W1:=by rw [hW1];exact (Bel.refl w).al _
 have CP:Hid (∀ (W:World) (D:Option Addr) (j' g' k:Nat),Bel w W→Ss W D (l.drop k)→j'=l.length - k→Calls Tryz.prog 140 #[.agg #[.slice A n c,.slice B m d],.slice D j' g'] W (PRes W (parseA names ps (l.drop k)))):=fun W D j' g' k hb hd hk =>
  parse_any (h.up hb.hid) hn hl (h'.up hb.hid) hm hl' hd (by rw [List.length_drop];exact hk) (fun x hx=>hu x (List.mem_of_mem_drop hx))
 have HW:=khide hW1
 have HD2:Ss W1 D l:=h2.up (by rw [hW1];exact (Below.refl _ _).alloc (Nat.le_refl _) _)
 have HN:=khide hj
 have HR:Hid (res=combA [] (atomsL names ps (l.drop 0))):=by rw [combA_start,← hres];rfl
 obtain ⟨i0,hi,hz0,hz1,hz2⟩:=info_parts infoAtomP
 have J0:=khide hi;have Y0:=khide hz0;have Y1:=khide hz1;have Y2:=khide hz2
 clear hi hz0 hz1 hz2 hW1 hj hres h h' h2 hu hn hm hl hl'
 go_enter Tryz.func97,Tryz.ntmps97
 go_upto_region 1 with fail
 rw [← HW.out]
 go_wp2_with fail
 go_loopw [1,6] (fun lv rv wr=>∃ (k j' g' cp:Nat) (D' R:Option Addr) (acc:List AL),lv = .slice D' j' g'∧rv = .slice R acc.length cp∧j' + k=j∧acc.length≤k∧j'≤g'∧Hid (Ss W1 D' (l.drop k))∧Hid (res=combA acc (atomsL names ps (l.drop k))) ∧
  Hid (wr.ownsRow W1.heap.size 96 3 (.slice R acc.length cp) acc.length (cellsA acc))∧Hid (Below W1.heap.size W1 wr)) (fun lv _ _=>match lv with | .slice _ j _=>j | _=>0)
 case atStart=>exact ⟨0,j,g,0,D,none,[],rfl,rfl,rfl,Nat.le_refl _,hjg,HD2,HR.out,World.ownsRow_nil _ _ _ _,Below.refl _ _⟩
 case round =>
  obtain ⟨k,j',g',cp,D',R,acc,rfl,rfl,hjk,hacc,hjg',HS,HC,HO,HB⟩:=hrel
  have HAR:=HA.up HB
  have HBS:Hid (W1.heap.size≤wr.heap.size):=HB.out.size
  have hBR:Hid (Bel w wr):=HBW.up HB
  have ha_0:=HAR.c0;have ha_1:=HAR.c1;have ha_l:=HAR.lt
  by_cases h0:0 < j'
  ·obtain ⟨pa,hpa⟩:∃ x,parseA names ps (l.drop k)=x:=⟨_,rfl⟩
   obtain ⟨p,nm,pk,t,ok⟩:=pa
   have C1:Hid (∀ q:Nat,Calls Tryz.prog 140 #[.agg #[.slice A n c,.slice B m d],.slice D' j' g'] (wr.drewN q) (PRes (wr.drewN q) ⟨p,nm,pk,t,ok⟩)):=fun q=>by
    rw [← hpa]
    exact CP.out _ D' j' g' k (ybelow_drewN hBR.out q) ((HS.out.up HB).dn q) (by rw [← HN.out];omega)
   have C0:Hid (Calls Tryz.prog 140 #[.agg #[.slice A n c,.slice B m d],.slice D' j' g'] wr (PRes wr ⟨p,nm,pk,t,ok⟩)):=C1.out 0
   have d0:decide ((0:Int) < (j':Int))=true:=decide_eq_true (by omega)
   cases ok with
   | false =>
     have HV:Hid (res=none):=HC.out.trans (combA_bad (by rw [List.length_drop,← HN.out];omega) (by rw [hpa]))
     clear hpa
     go_wp2_with (first | (go_at_call 140;(with_reducible refine (C0.out).mono ?_);rintro e w2 ⟨rfl,hb2⟩) | fail)
     go_ret2
     rw [HV.out]
     exact ⟨rfl,((hBR.out.up hb2.hid).al _)⟩
   | true =>
     have HV:Hid (res=combA (acc ++ [(p,nm,(pk:Int))]) (atomsL names ps (l.drop (k + t)))):=by
      have:=HC.out.trans (combA_more hpa);rwa [List.drop_drop] at this
     have ht:=parseA_t (names:=names) (ps:=ps) (l:=l.drop k) (by rw [hpa])
     rw [hpa,List.length_drop,← HN.out] at ht
     obtain ⟨t1,t2,t3⟩:=ht
     clear hpa
     go_wp2_with (first | (go_at_call 140;(with_reducible refine (C0.out).mono ?_);rintro e w2 ⟨rfl,hb2⟩) | (at_builtin;go_must (refine wpList_append_own _ rfl (.tmp 22) (.tmp 24) 39 rfl W1.heap.size 96 i0 (.agg #[.string ByteArray.empty,.string ByteArray.empty,.int .i64 0]) 3 40 Tryz.underlying39 J0.out Y0.out Y1.out Y2.out rfl (by decide) _ _ _ rfl (((own_up HO.out hb2.hid).alloc _).alloc _) ⟨w2.heap.size + 1,0,none⟩ 1 1 (cellA (p,nm,(pk:Int))) rfl rfl (at_news (at_new1 _ _ _ _)) (cellA_one _) (by simp only [maxLen];omega) (by omega) (Nat.le_trans HBS.out (Nat.le_trans hb2.size (by simp;omega))) ?_);intro v1 w3 ho1 hg1 hn1;clear hn1) | fail)
     have hg2:((w2.alloc (.cells #[.string p,.string nm,.int .i64 (pk:Int)] 96)).alloc (.cells #[.string p,.string nm,.int .i64 (pk:Int)] 96)).grownBy w3 (Value.slice R acc.length cp).ownBlock:=hg1
     have HO2:=own_up HO.out hb2.hid
     have HB2:Hid (Below W1.heap.size W1 w2):=HB.out.trans (hb2.mono HBS.out)
     have HB3:Hid (Below W1.heap.size W1 w3):=((HB2.out.alloc HB2.out.size _).alloc (HB2.out.alloc HB2.out.size _).size _).grown hg2 ((HB2.out.alloc HB2.out.size _).alloc (HB2.out.alloc HB2.out.size _).size _).size (fun g' e=>(HO2.lt g' e).1)
     obtain ⟨R2,cp2,rfl,_⟩:=own_slice ho1
     have HS3:Ss W1 (if g'=t then D' else Option.map (fun x=>x.add t) D') (l.drop (k + t)):=by
      have:=HS.out.sub (t:=t) (g:=g') (by rw [List.length_drop,← HN.out];omega)
      rwa [List.drop_drop] at this
     have HO3:=khide ho1
     clear hg1 hg2 ho1 HO2
     go_roundw
     case rel =>
      refine ⟨k + t,j' - t,g' - t,cp2,_,R2,acc ++ [(p,nm,(pk:Int))],rfl,by simp,by omega,by simp;omega,by omega,HS3,HV,?_,HB3⟩
      rw [cellsA_snoc]
      unfold Hid
      simpa using HO3.out
     case measure=>show j' - t < j';omega
  ·obtain rfl:j'=0:=by omega
   go_wp2
   go_ret2
   have e0:l.drop k=[]:=List.drop_eq_nil_of_le (by rw [← HN.out];omega)
   have HV:=HC.out
   rw [e0,atomsL_nil,combA_end] at HV
   rw [HV]
   refine ⟨R,cp,rfl,?_,own_base HO.out HBW.size,hBR.out⟩
   obtain ⟨A1,c1,e1,h1⟩:=own_slice HO.out
   injection e1 with e2 _ e3
   subst e2;subst e3
   exact h1
def showA (a:AL):ByteArray:=showB a.1 a.2.1 a.2.2
def showsA (l:List AL):List ByteArray:=l.map showA
theorem one_str (s:ByteArray):∀ u ∈ [Value.string s],u.oneCell'=true:=by
 intro u hu
 simp only [List.mem_cons,List.not_mem_nil,or_false] at hu
 subst hu;rfl
theorem hinfoStr:(Tryz.prog.info? 9).map (fun i=>(i.zero,i.size,i.bytes))=some (some (.string ByteArray.empty),1,16):=by kernel_rfl
section
variable {α:Type} {t:α} {css:List (List α)}
end
theorem app_data (s t:ByteArray):(s ++ t).data.toList=s.data.toList ++ t.data.toList:=by simp
abbrev PL:=List AL × List AL × ByteArray
def oneB:ByteArray:=⟨#[49]⟩
def partW (p:PL):List ByteArray:=if p.2.1=[]∧p.2.2=oneB then showsA p.1 else if p.2.2=oneB then showsA p.1 ++ [perB] ++ showsA p.2.1 else showsA p.1 ++ [perB] ++ [p.2.2] ++ showsA p.2.1
def partS (p:PL):ByteArray:=joinS (partW p)
def FitL (l:List AL):Prop:=l.length≤1000 ∧ ∀ a ∈ l,a.1.size≤2000000∧a.2.1.size≤2000000
theorem str_tests {t:ByteArray} {b:Bool} (h:decide (t=oneB)=b):(t.toList == [49])=b∧(t.toList != [49]) = !b:=by
 have e:(t.toList == [49])=b:=by
  cases b with
  | true =>
    have:=of_decide_eq_true h
    subst this
    decide +kernel
  | false =>
    have:=of_decide_eq_false h
    have h2:=str_ne this
    rwa [show oneB.toList=[49] from by decide +kernel] at h2
 exact ⟨e,by rw [bne,e]⟩
theorem grown_on {W w2 w3:World} {B n:Nat} {e:TypeId} {v:Value} {xs:List Value} {o:Obj} (hb:Hid (Below B W w2)) (hB:B≤w2.heap.size) (ho:w2.ownsRow B e 1 v n xs) (hg:(w2.alloc o).grownBy w3 v.ownBlock):Hid (Below B W w3) :=
 (hb.out.alloc hB _).grown hg (Nat.le_trans hB (by simp)) (fun g' e=>(ho.lt g' e).1)
theorem ss_own' {W:World} {base n c:Nat} {e:TypeId} {A:Option Addr} {L:List Value} {zs:List ByteArray} (h:W.ownsRow base e 1 (.slice A n c) n L) (hL:L=zs.map Value.string) (hn:n=zs.length):Ss W A zs:=by subst hn;subst hL;exact RS.of_own h
def RP (w:World) (B:Nat) (A:Option Addr) (ps:List PL):Prop :=
 0 < ps.length → ∃ (ad:Addr) (us vs:Nat→Option Addr × Nat),A=some ad∧ad.block < B ∧ ∀ j p,ps[j]? = some p →
  w.cell? (ad.add (j * 3))=some (.slice (us j).1 p.1.length (us j).2)∧w.cell? (ad.add (j * 3 + 1))=some (.slice (vs j).1 p.2.1.length (vs j).2)∧w.cell? (ad.add (j * 3 + 2))=some (.string p.2.2) ∧
  RC w B (us j).1 (cellsA p.1)∧RC w B (vs j).1 (cellsA p.2.1)
def Ps (W:World) (A:Option Addr) (ps:List PL):Prop:=Hid (RP W W.heap.size A ps)
section
variable {w w' W W':World} {B B':Nat} {A:Option Addr} {ps:List PL}
theorem RP.keep (h:RP w B A ps) (hk:∀ p:Addr,p.block < B→w'.cell? p=w.cell? p):RP w' B A ps:=fun hn=>by
 obtain ⟨ad,us,vs,e,hb,hc⟩:=h hn
 refine ⟨ad,us,vs,e,hb,fun j p hj=>?_⟩
 obtain ⟨h1,h2,h3,h4,h5⟩:=hc j p hj
 exact ⟨(hk _ (by rw [yblock_add];exact hb)).trans h1,(hk _ (by rw [yblock_add];exact hb)).trans h2,(hk _ (by rw [yblock_add];exact hb)).trans h3,h4.keep hk,h5.keep hk⟩
theorem RP.more (h:RP w B A ps) (hB:B≤B'):RP w B' A ps:=fun hn=>by
 obtain ⟨ad,us,vs,e,hb,hc⟩:=h hn
 refine ⟨ad,us,vs,e,by omega,fun j p hj=>?_⟩
 obtain ⟨h1,h2,h3,h4,h5⟩:=hc j p hj
 exact ⟨h1,h2,h3,h4.more hB,h5.more hB⟩
theorem RP.below (h:RP w B A ps) (hb:Below B w w'):RP w' B A ps:=h.keep fun _ hp=>hb.cell hp
theorem Ps.up (h:Ps W A ps) (hb:Hid (Below W.heap.size W W')):Ps W' A ps:=(h.out.below hb.out).more hb.out.size
theorem addr_zero (ad:Addr):ad.add 0=ad:=by unfold Addr.add;simp
theorem add_next (ad:Addr) (q i:Nat):(⟨(ad.add q).block,(ad.add q).off + (i + 1),none⟩:Addr)=ad.add (q + (i + 1)):=by
 unfold Addr.add
 split <;> split <;> simp_all <;> omega
theorem Ps.at_ {k:Nat} {p:PL} (h:Ps W A ps) (hk:ps[k]? = some p):∃ (ad:Addr) (A1 A2:Option Addr) (c1 c2:Nat),A=some ad∧ad.block < W.heap.size ∧
 W.cell? (ad.add (k * 3))=some (.slice A1 p.1.length c1)∧W.cell? ⟨(ad.add (k * 3)).block,(ad.add (k * 3)).off + 1,none⟩=some (.slice A2 p.2.1.length c2)∧W.cell? ⟨(ad.add (k * 3)).block,(ad.add (k * 3)).off + 2,none⟩=some (.string p.2.2) ∧
 Cs W A1 (cellsA p.1)∧Cs W A2 (cellsA p.2.1):=by
 have hl:k < ps.length:=(List.getElem?_eq_some_iff.1 hk).1
 obtain ⟨ad,us,vs,e,hb,hc⟩:=h.out (by omega)
 obtain ⟨h1,h2,h3,h4,h5⟩:=hc k p hk
 refine ⟨ad,(us k).1,(vs k).1,(us k).2,(vs k).2,e,hb,h1,?_,?_,h4,h5⟩
 ·rw [add_next ad (k * 3) 0];exact h2
 ·rw [add_next ad (k * 3) 1];exact h3
end
def FitP (p:PL):Prop:=FitL p.1∧FitL p.2.1∧(glue 45 ((partW p).map (·.data.toList))).length≤140737488355328
def unitN (ps:List PL):Nat→ByteArray
 | 0=>⟨#[]⟩
 | k + 1=>(if 0 < k then unitN ps k ++ ⟨#[45,97,110,100,45]⟩ else unitN ps k) ++ (match ps[k]? with | none=>⟨#[]⟩ | some p=>partS p)
def unitS (ps:List PL):ByteArray:=unitN ps ps.length
section
variable {base:Nat} {tO ti:TypeId} {w w':World} {css:List (List ByteArray)} {vs:List Value} {g cap:Nat}
theorem Bld.put (h:Bld base tO ti w (.slice (some ⟨g,0,none⟩) css.length cap) css vs) (hne:tO ≠ ti) {j:Nat} {y:Value} {cs:List ByteArray} (hy:vs[j]? = some y) (hcs:css[j]? = some cs)
 {o:Obj} {v':Value} {x:ByteArray} (ho:w'.ownsRow base ti 1 v' (cs.length + 1) (cs.map Value.string ++ [.string x])) (hg:(w.alloc o).grownBy w' y.ownBlock)
 (hat:v'.ownBlock=y.ownBlock ∨ v'.ownBlock=some (w.alloc o).heap.size) :
 Bld base tO ti (w'.setCell ⟨g,j,none⟩ v') (.slice (some ⟨g,0,none⟩) css.length cap) (css.set j (cs ++ [x])) (vs.set j v'):=by
 have hl:=h.len
 have hyo:=h.inner j y cs hy hcs
 have houter:w'.ownsRow base tO 1 (.slice (some ⟨g,0,none⟩) css.length cap) css.length vs:=(h.own.alloc o).kept hg (own_type_ne (h.own.alloc o) (hyo.alloc o) hne)
 have hst:=World.ownsRow.stored houter j v'
 have hjv:j < vs.length:=by
  rcases Nat.lt_or_ge j vs.length with h1 | h1
  ·exact h1
  ·rw [List.getElem?_eq_none h1] at hy;cases hy
 have keep:∀ {z:Value} {n:Nat} {zs:List Value},w'.ownsRow base ti 1 z n zs→(w'.setCell ⟨g,j,none⟩ v').ownsRow base ti 1 z n zs:=fun {z n zs} hz =>
  hz.kept hst.2 (by rcases own_type_ne hz houter (Ne.symm hne) with e | e;(· exact .inl e);(· exact .inr e))
 refine ⟨by rw [List.length_set];exact hst.1,fun i x' cs' h1 h2=>?_,fun i k x' y' h1 h2 hik=>?_⟩
 ·by_cases hij:i=j
  ·subst hij
   rw [List.getElem?_set_self hjv] at h1
   rw [List.getElem?_set_self (by omega)] at h2
   injection h1 with h1
   injection h2 with h2
   subst h1;subst h2
   have:=keep ho
   rw [List.length_append,List.map_append]
   exact this
  ·rw [List.getElem?_set_ne (Ne.symm hij)] at h1 h2
   have hx:=h.inner i x' cs' h1 h2
   exact keep ((hx.alloc o).kept hg (h.apart i j x' y h1 hy hij))
 ·have new:∀ {i:Nat} {x':Value},vs[i]? = some x'→x'.ownBlock ≠ some (w.alloc o).heap.size:=fun {i x'} hx e=>by
   have hi:i < css.length:=by
    rcases Nat.lt_or_ge i css.length with h3 | h3
    ·exact h3
    ·rw [List.getElem?_eq_none (by omega)] at hx;cases hx
   have h3:=(h.inner i x' _ hx (List.getElem?_eq_getElem hi)).lt _ e
   simp at h3
   omega
  by_cases hi:i=j
  ·subst hi
   rw [List.getElem?_set_self hjv] at h1
   injection h1 with h1
   subst h1
   rw [List.getElem?_set_ne hik] at h2
   rcases hat with e | e
   ·rw [e];exact h.apart i k y y' hy h2 hik
   ·rw [e];exact .inr (Ne.symm (new h2))
  ·rw [List.getElem?_set_ne (Ne.symm hi)] at h1
   by_cases hk:k=j
   ·subst hk
    rw [List.getElem?_set_self hjv] at h2
    injection h2 with h2
    subst h2
    rcases hat with e | e
    ·rw [e];exact h.apart i k x' y h1 hy hik
    ·rw [e];exact .inr (new h1)
   ·rw [List.getElem?_set_ne (Ne.symm hk)] at h2
    exact h.apart i k x' y' h1 h2 hik
def bears:Option Value→Option Addr × Nat
 | some (.slice A _ c)=>(A,c)
 | _=>(none,0)
theorem Bld.rss (h:Bld base tO ti w (.slice (some ⟨g,0,none⟩) css.length cap) css vs):RSS w w.heap.size (some ⟨g,0,none⟩) css:=fun hn=>by
 have hl:=h.len
 refine ⟨_,fun j=>bears vs[j]?,rfl,(h.own.lt g rfl).2,fun j cs hcs=>?_⟩
 have hj:j < vs.length:=by
  rcases Nat.lt_or_ge j vs.length with h1 | h1
  ·exact h1
  ·rw [List.getElem?_eq_none (by omega)] at hcs;cases hcs
 have hx:=List.getElem?_eq_getElem hj
 have hc:=h.own.cells (g:=g) rfl j _ hx
 have ho:=h.inner j _ cs hx hcs
 show w.cell? _=some (Value.slice (bears vs[j]?).1 cs.length (bears vs[j]?).2)∧RS w w.heap.size (bears vs[j]?).1 cs∧((bears vs[j]?).1=none→(bears vs[j]?).2=0)
 rw [hx]
 have form:∃ A c,vs[j] = .slice A cs.length c∧(A=none→c=0):=by
  rcases ho.2 with ⟨e,e2⟩ | ⟨g',cap',cur,e,_⟩
  ·exact ⟨none,0,by rw [e,e2],fun _=>rfl⟩
  ·exact ⟨_,_,e,fun h=>by cases h⟩
 obtain ⟨A,c,e,e3⟩:=form
 rw [e] at hc ho ⊢
 exact ⟨hc,RS.of_own ho,e3⟩
theorem Bld.form {v:Value} (h:Bld base tO ti w v css vs) (hn:0 < css.length):∃ g cap,v = .slice (some ⟨g,0,none⟩) css.length cap:=by
 rcases h.own.2 with ⟨_,e⟩ | ⟨g,cap,cur,e,_⟩
 ·omega
 ·exact ⟨g,cap,e⟩
theorem Bld.cell {j:Nat} {y:Value} (h:Bld base tO ti w (.slice (some ⟨g,0,none⟩) css.length cap) css vs) (hy:vs[j]? = some y):w.cell? ⟨g,j,none⟩=some y:=by
 have hl:=h.len
 have hj:j < vs.length:=by
  rcases Nat.lt_or_ge j vs.length with h1 | h1
  ·exact h1
  ·rw [List.getElem?_eq_none h1] at hy;cases hy
 rw [World.ownsRow.cellAt h.own j (by omega)]
 exact hy
theorem Bld.start (hb:base≤w.heap.size):Bld base tO ti (w.alloc (.cells #[.slice none 0 0] tO)) (.slice (some ⟨w.heap.size,0,none⟩) 1 1) [[]] [.slice none 0 0]:=by
 refine ⟨World.ownsRow_lit w _ 1 hb (by decide) rfl,fun j x cs h1 h2=>?_,fun i j x y h1 h2 hij=>?_⟩
 ·cases j with
  | zero=>simp at h1 h2;subst h1;subst h2;exact World.ownsRow_nil _ _ _ _
  | succ j=>simp at h1
 ·cases i with
  | zero=>simp at h1;subst h1;exact .inl rfl
  | succ i=>simp at h1
end
theorem set_last {a c:ByteArray} {css:List (List ByteArray)} {j:Nat} {cs:List ByteArray} (hc:c ≠ a) (hj:css.length=j + 1) (hcs:css[j]? = some cs):css.set j (cs ++ [c])=cutMore a c css:=by
 unfold cutMore
 rw [if_neg hc]
 have hl:css.getLastD []=cs:=by
  rw [List.getLastD_eq_getLast?,List.getLast?_eq_getElem?,show css.length - 1=j by omega,hcs];rfl
 rw [hl]
 obtain ⟨pre,hp⟩:∃ pre,css=pre ++ [cs]:=by
  refine ⟨css.take j,?_⟩
  have hlt:j < css.length:=by omega
  rw [List.getElem?_eq_getElem hlt] at hcs
  injection hcs with hcs
  rw [← hcs,← List.take_succ_eq_append_getElem hlt,List.take_of_length_le (by omega)]
 subst hp
 have hpl:pre.length=j:=by simp at hj;exact hj
 subst hpl
 rw [List.set_append,if_neg (by omega),Nat.sub_self,List.dropLast_concat]
 rfl
theorem cut_step {a c:ByteArray} {xs:List ByteArray} {k:Nat} (h:xs[k]? = some c):cutBy a (xs.take (k + 1))=cutMore a c (cutBy a (xs.take k)):=by
 rw [List.take_add_one,h]
 exact cutBy_snoc _ _
theorem own_form {w:World} {base:Nat} {e:TypeId} {v:Value} {n:Nat} {xs:List Value} (h:w.ownsRow base e 1 v n xs) (hn:0 < n):∃ g cap,v = .slice (some ⟨g,0,none⟩) n cap:=by
 rcases h.2 with ⟨_,e⟩ | ⟨g,cap,cur,e,_⟩
 ·omega
 ·exact ⟨g,cap,e⟩
theorem arm_facts {w w1:World} {base g m cap l:Nat} {tO ti:TypeId} {vs ys zs:List Value} {y v1:Value} {o:Obj} (hw:Hid (w.ownsRow base tO 1 (.slice (some ⟨g,0,none⟩) (m + 1) cap) (m + 1) vs)) (hoy:Hid (w.ownsRow base ti 1 y l ys)) (hne:tO ≠ ti)
 (hy:Hid (vs[m]? = some y)) (ho:w1.ownsRow base ti 1 v1 (l + 1) zs) (hg:(w.alloc o).grownBy w1 y.ownBlock) :
 (∃ g1 cap1,v1 = .slice (some ⟨g1,0,none⟩) (l + 1) cap1)∧w1.cell? ⟨g,m,none⟩=some y∧w1.frozen? ⟨g,m,none⟩=false:=by
 have h2:=(hw.out.alloc o).kept hg (own_type_ne (hw.out.alloc o) (hoy.out.alloc o) hne)
 refine ⟨own_form ho (by omega),?_,World.ownsRow.frozenAt h2 m⟩
 rw [World.ownsRow.cellAt h2 m (by omega)]
 exact hy.out
theorem ymem_le_sum {x:Nat} {l:List Nat} (h:x ∈ l):x≤l.sum:=by
 induction l with
 | nil=>simp at h
 | cons y l ih =>
   rw [List.sum_cons]
   rcases List.mem_cons.1 h with rfl | h
   ·omega
   ·have:=ih h;omega
theorem cutBy_piece {a:ByteArray} {l p:List ByteArray} (h:p ∈ cutBy a l):p.length≤l.length:=by
 have h1:=cutBy_total (a:=a) l
 have h2:=ymem_le_sum (List.mem_map_of_mem (f:=List.length) h)
 omega
theorem Tryz.infoStr:(Tryz.prog.info? 9).map (fun i=>(i.zero,i.size,i.bytes))=some (some (.string ByteArray.empty),1,16):=by kernel_rfl
theorem Tryz.infoStrs:(Tryz.prog.info? 60).map (fun i=>(i.zero,i.size,i.bytes))=some (some (.slice none 0 0),1,24):=by kernel_rfl
def BldT (w:World) (wr:World) (v:Value) (css:List (List ByteArray)) (vs:List Value):Prop:=Bld w.heap.size 60 9 wr v css vs
theorem str_neY {x y:ByteArray} (h:x ≠ y):(x.toList == y.toList)=false:=by
 rw [beq_eq_false_iff_ne]
 intro e
 rw [Lib.toList_data,Lib.toList_data] at e
 exact h (ByteArray.ext (Array.ext' e))
def Caps (w:World) (ad:Addr) (css:List (List ByteArray)):Prop:=∀ (j:Nat) (A:Option Addr) (n c:Nat),j < css.length→w.cell? (ad.add j)=some (.slice A n c)→n≤c
theorem Bld.caps {base:Nat} {tO ti:TypeId} {w:World} {g cap:Nat} {css:List (List ByteArray)} {vs:List Value} (h:Bld base tO ti w (.slice (some ⟨g,0,none⟩) css.length cap) css vs):Caps w ⟨g,0,none⟩ css:=fun j A n c hj hc=>by
 have hl:=h.len
 have hx:=List.getElem?_eq_getElem (show j < vs.length by omega)
 have hc2:=h.own.cells (g:=g) rfl j _ hx
 have ho:=h.inner j _ _ hx (List.getElem?_eq_getElem hj)
 rw [hc] at hc2
 injection hc2 with hc2
 rw [← hc2] at ho
 rcases ho.2 with ⟨h0,_⟩ | ⟨g',cap',cur,h0,_,_,h3,_⟩
 ·injection h0 with _ h1 h2;omega
 ·injection h0 with _ h1 h2;omega
def ListsC (W:World) (css:List (List ByteArray)) (e:Ending) (w':World):Prop:=∃ ad c,e = .returned (.slice (some ad) css.length c)∧Sss w' (some ad) css∧Caps w' ad css∧Hid (Below W.heap.size W w')
theorem wcut_any {A:Option Addr} {n c:Nat} {xs:List ByteArray} {t:ByteArray} {w:World} (h:Ss w A xs) (hn:n=xs.length) (hl:n≤1000000) :
 Calls Tryz.prog 57 #[.slice A n c,.string t] w (ListsC w (cutBy t xs)):=by
 have HN:=yhide hn
 clear hn
 have hmk:=run_make_row' (P:=Tryz.prog) 129 60 (.slice none 0 0) 24 Tryz.underlying129 Tryz.infoStrs rfl .i64 .i64 1 (by decide) (by decide)
 have hmk1:∀ W:World,(Instr.makeSlice 129 (.int .i64 1) (.int .i64 1)).run Tryz.prog W = .ok (.slice (some ⟨W.heap.size,0,none⟩) 1 1) (W.alloc (.cells #[.slice none 0 0] 60)):=fun W=>by
  have h1:=hmk W
  rw [show madeCells #[Value.slice none 0 0] 1 = #[Value.slice none 0 0] by kernel_rfl] at h1
  exact h1
 clear hmk
 obtain ⟨i0,hi0,hz0,hz1,hz2⟩:=info_parts Tryz.infoStrs
 have I0:=yhide hi0;have Z0:=yhide hz0;have Z1:=yhide hz1;have Z2:=yhide hz2
 clear hi0 hz0 hz1 hz2
 obtain ⟨j0,hj0,hy0,hy1,hy2⟩:=info_parts Tryz.infoStr
 have J0:=yhide hj0;have Y0:=yhide hy0;have Y1:=yhide hy1;have Y2:=yhide hy2
 clear hj0 hy0 hy1 hy2
 go_enter Tryz.func57,Tryz.ntmps57
 go_wp2
 clear hmk1
 go_loopw [5,12] (fun lv iv wr=>∃ (k m g cap:Nat) (css:List (List ByteArray)) (vs:List Value),k≤n∧m≤k∧iv = .int .i64 (k:Int)∧lv = .slice (some ⟨g,0,none⟩) (m + 1) cap∧Hid (css.length=m + 1)∧Hid (css=cutBy t (xs.take k)) ∧
  Hid (BldT w wr (.slice (some ⟨g,0,none⟩) css.length cap) css vs)∧Hid (Below w.heap.size w wr)) (fun _ iv _=>n - (intOf iv).toNat)
 case atStart=>exact ⟨0,0,w.heap.size,1,[[]],[.slice none 0 0],Nat.zero_le _,Nat.le_refl _,rfl,rfl,rfl,rfl,Bld.start (Nat.le_refl _),(Below.refl _ _).alloc (Nat.le_refl _) _⟩
 case round =>
  obtain ⟨k,m,g,cap,css,vs,hk,hmk,rfl,rfl,hcl,hcs,hbld,hbk⟩:=hrel
  by_cases hlt:k < n
  ·have hx:k < xs.length:=by rw [← HN.out];exact hlt
   obtain ⟨ad,rfl,hb,hcell⟩:=h.out.at_ hx
   obtain ⟨x,hxe⟩:∃ x,x=xs[k]:=⟨_,rfl⟩
   have HX:Hid (xs[k]? = some x):=by rw [hxe];exact List.getElem?_eq_getElem hx
   rw [← hxe] at hcell
   replace hcell:wr.cell? (ad.add k)=some (.string x):=(hbk.out.cell (by rw [yblock_add];exact hb)).trans hcell
   have HBW:=yhide hbk.out.size
   clear hxe hx
   by_cases he:x=t
   ·subst he
    have HOW:Hid (wr.ownsRow w.heap.size 60 1 (.slice (some ⟨g,0,none⟩) (m + 1) cap) (m + 1) vs):=by have:=hbld.out.own;rw [hcl.out] at this;exact this
    go_wp2_with (first | (at_builtin;go_must (refine wpList_append_own_at _ rfl (.tmp 19) (.tmp 20) 129 rfl w.heap.size 60 i0 (.slice none 0 0) 1 24 Tryz.underlying129 I0.out Z0.out Z1.out Z2.out rfl (by decide) (.slice (some ⟨g,0,none⟩) (m + 1) cap) _ _ rfl (HOW.out.alloc _) ⟨wr.heap.size,0,none⟩ 1 1 [.slice none 0 0] rfl rfl (cell_one_new _ _ _) (by intro u hu;simp at hu;subst hu;rfl) (by simp only [maxLen];omega) (by omega) (Nat.le_trans HBW.out (by simp)) ?_);intro v1 w1 ho1 hg1 hn1 ha1;clear hn1 ha1) | fail)
    have hB2:Bld w.heap.size 60 9 w1 v1 (css ++ [[]]) (vs ++ [.slice none 0 0]):=Bld.more (Bld.alloc hbld.out _) (by decide) (by rw [hcl.out];exact ho1) (by rw [hcl.out];exact hg1)
    obtain ⟨g1,cap1,hv1⟩:=hB2.form (by simp)
    have hv2:v1 = .slice (some ⟨g1,0,none⟩) (m + 1 + 1) cap1:=by rw [hv1];simp [hcl.out]
    have HB2:=yhide hB2
    have HB3:Hid (Below w.heap.size w w1):=(hbk.out.alloc HBW.out _).grown hg1 (Nat.le_trans HBW.out (by simp)) (fun g' e=>(hbld.out.own.lt g' (by rw [hcl.out];exact e)).1)
    clear hv1 hB2 hg1 ho1
    subst hv2
    go_roundw
    case rel =>
     refine ⟨k + 1,m + 1,g1,cap1,css ++ [[]],vs ++ [.slice none 0 0],by omega,by omega,by go_num,rfl,by unfold Hid;simp [hcl.out],?_,?_,HB3⟩
     ·unfold Hid
      rw [cut_step HX.out,← hcs.out]
      unfold cutMore
      rw [if_pos rfl]
     ·have:=HB2.out
      unfold Hid BldT
      rw [List.length_append,hcl.out]
      exact this
    case measure=>simp [intOf];omega
   ·have hne:=str_neY he
    have HE:=yhide he
    have hm1:m < css.length:=by rw [hcl.out];omega
    have hm2:m < vs.length:=by rw [Bld.len hbld.out];exact hm1
    obtain ⟨y,hye⟩:∃ y,y=vs[m]:=⟨_,rfl⟩
    obtain ⟨cs,hce⟩:∃ cs,cs=css[m]:=⟨_,rfl⟩
    have HY:Hid (vs[m]? = some y):=by rw [hye];exact List.getElem?_eq_getElem hm2
    have HC:Hid (css[m]? = some cs):=by rw [hce];exact List.getElem?_eq_getElem hm1
    have hcsl:cs.length≤1000000:=by
     have h1:cs ∈ cutBy t (xs.take k):=by rw [← hcs.out,hce];exact List.getElem_mem hm1
     have h2:=cutBy_piece h1
     have h3:(xs.take k).length≤k:=List.length_take_le _ _
     omega
    have hcy:wr.cell? ⟨g,m,none⟩=some y:=Bld.cell hbld.out HY.out
    have HOW:Hid (wr.ownsRow w.heap.size 60 1 (.slice (some ⟨g,0,none⟩) (m + 1) cap) (m + 1) vs):=by have:=hbld.out.own;rw [hcl.out] at this;exact this
    have HOY:Hid (wr.ownsRow w.heap.size 9 1 y cs.length (cs.map Value.string)):=hbld.out.inner m y cs HY.out HC.out
    clear he hye hce hm1 hm2
    go_wp2_with (first | (at_builtin;go_must (refine wpList_append_own_at _ rfl (.tmp 30) (.tmp 32) 60 rfl w.heap.size 9 j0 (.string ByteArray.empty) 1 16 Tryz.underlying60 J0.out Y0.out Y1.out Y2.out rfl (by decide) y _ _ rfl (HOY.out.alloc _) ⟨wr.heap.size,0,none⟩ 1 1 [.string x] rfl rfl (cell_one_new _ _ _) (by intro u hu;simp at hu;subst hu;rfl) (by simp only [maxLen];omega) (by omega) (Nat.le_trans HBW.out (by simp)) ?_;intro v1 w1 ho1 hg1 hn1 ha1;clear hn1;obtain ⟨⟨g1,cap1,rfl⟩,hc2,hf2⟩:=arm_facts HOW HOY (by decide) HY ho1 hg1;have HO1:=yhide ho1;have HG1:=yhide hg1;have HA1:=yhide ha1;clear ho1 hg1 ha1)))
    go_roundw
    case rel =>
     have hB2:=Bld.put hbld.out (by decide) HY.out HC.out (x:=x) HO1.out HG1.out HA1.out
     refine ⟨k + 1,m,g,cap,css.set m (cs ++ [x]),vs.set m (.slice (some ⟨g1,0,none⟩) (cs.length + 1) cap1),by omega,by omega,by go_num,rfl,by unfold Hid;rw [List.length_set];exact hcl.out,?_,?_,?_⟩
     ·unfold Hid
      rw [cut_step HX.out,← hcs.out]
      exact set_last HE.out hcl.out HC.out
     ·unfold Hid BldT
      rw [List.length_set]
      exact hB2
     ·exact (((hbk.out.alloc HBW.out _).grown HG1.out (Nat.le_trans HBW.out (by simp)) (fun g' e=>(HOY.out.lt g' e).1)).setCell (p:=⟨g,m,none⟩) (hbld.out.own.lt g rfl).1 _)
    case measure=>simp [intOf];omega
  ·obtain rfl:k=n:=by omega
   have HR:Hid (ListsC w (cutBy t xs) (.returned (.slice (some ⟨g,0,none⟩) (m + 1) cap)) wr):=by
    have e:cutBy t xs=css:=by
     rw [hcs.out,List.take_of_length_le (by rw [← HN.out];exact Nat.le_refl _)]
    rw [e]
    exact ⟨⟨g,0,none⟩,cap,by rw [hcl.out],Bld.rss hbld.out,Bld.caps hbld.out,hbk⟩
   go_wp2
   go_ret
   exact HR.out
section
variable {base:Nat} {tO ti:TypeId} {w w':World} {css:List (List ByteArray)} {vs:List Value} {g cap:Nat}
end

def headD:List ByteArray→ByteArray × List ByteArray
 | []=>(oneB,[])
 | x :: d=>if numW x.data.toList=true∧x ≠ oneB then (x,d) else (oneB,x :: d)
def partC (names ps:List ByteArray):List (List ByteArray)→Option PL
 | [a]=>(atomsL names ps a).bind fun r=>if 0 < r.length∧r.length≤8 then some (r,[],oneB) else none
 | [a,d]=>if d=[] then none else (atomsL names ps a).bind fun r=>(atomsL names ps (headD d).2).bind fun s=>if r.length + s.length≤8 then some (r,s,(headD d).1) else none
 | _=>none
def partD (names ps l:List ByteArray):Option PL:=partC names ps (cutBy perB l)



end Go.Proofs.YtfflmmbhpchloaaGreatDoor
end
