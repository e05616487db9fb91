/- Each theorem here says its own conditions. -/
import Derived.Test.YtfflmmbhpchloaaGreatDoorGTpwc44
import Derived.Test.YtfflmmbhpchloaaGreatDoorGTpwc23
set_option maxRecDepth 100000
set_option maxHeartbeats 16000000
section
open Go.RowKit
namespace Go.Proofs.YtfflmmbhpchloaaGreatDoor
def PartO (W:World) (p:PL) (e:Ending) (w':World):Prop:=∃ A1 c1 A2 c2,e = .returned (.agg #[.slice A1 p.1.length c1,.slice A2 p.2.1.length c2,.string p.2.2]) ∧
 Hid (w'.ownsRow W.heap.size 166 3 (.slice A1 p.1.length c1) p.1.length (cellsA p.1))∧Hid (w'.ownsRow W.heap.size 166 3 (.slice A2 p.2.1.length c2) p.2.1.length (cellsA p.2.1))∧Bel W w'
section
variable {w:World} {q:QL}
end
theorem own_type_ne3 {w:World} {base size size':Nat} {e e':TypeId} {v v':Value} {n n':Nat} {xs xs':List Value} (h:w.ownsRow base e size v n xs) (h':w.ownsRow base e' size' v' n' xs') (hne:e ≠ e'):v.ownBlock=none ∨ v.ownBlock ≠ v'.ownBlock:=by
 rcases h.2 with ⟨rfl,_⟩ | ⟨g,cap,cur,rfl,_,hg,_⟩
 ·exact .inl rfl
 ·rcases h'.2 with ⟨rfl,_⟩ | ⟨g',cap',cur',rfl,_,hg',_⟩
  ·right;simp [Value.ownBlock]
  ·right
   simp only [Value.ownBlock,ne_eq,Option.some.injEq]
   rintro rfl
   rw [hg] at hg'
   injection hg' with hg'
   injection hg' with _ ht
   exact hne ht
structure OwnP (base:Nat) (w:World) (v:Value) (ps:List PL) (cs:List Value):Prop where
 own:w.ownsRow base 117 3 v ps.length cs
 len:cs.length=ps.length * 3
 each:∀ j p,ps[j]? = some p → ∃ A1 c1 A2 c2,cs[j * 3]? = some (.slice A1 p.1.length c1)∧cs[j * 3 + 1]? = some (.slice A2 p.2.1.length c2)∧cs[j * 3 + 2]? = some (.string p.2.2) ∧
  w.ownsRow base 166 3 (.slice A1 p.1.length c1) p.1.length (cellsA p.1)∧w.ownsRow base 166 3 (.slice A2 p.2.1.length c2) p.2.1.length (cellsA p.2.1)
section
variable {base:Nat} {w w':World} {v v':Value} {ps:List PL} {p:PL} {cs:List Value}
theorem OwnP.nil:OwnP base w (.slice none 0 0) [] []:=⟨World.ownsRow_nil _ _ _ _,rfl,fun j p h=>by simp at h⟩
theorem OwnP.up (h:OwnP base w v ps cs) (hb:Hid (Below w.heap.size w w')):OwnP base w' v ps cs :=
 ⟨own_up h.own hb,h.len,fun j p hj=>by
   obtain ⟨A1,c1,A2,c2,e1,e2,e3,h1,h2⟩:=h.each j p hj
   exact ⟨A1,c1,A2,c2,e1,e2,e3,own_up h1 hb,own_up h2 hb⟩⟩
theorem OwnP.more {A1 A2:Option Addr} {c1 c2:Nat} (h:OwnP base w v ps cs) (ho:w'.ownsRow base 117 3 v' (ps.length + 1) (cs ++ [.slice A1 p.1.length c1,.slice A2 p.2.1.length c2,.string p.2.2])) (hg:w.grownBy w' v.ownBlock)
 (h1:w.ownsRow base 166 3 (.slice A1 p.1.length c1) p.1.length (cellsA p.1)) (h2:w.ownsRow base 166 3 (.slice A2 p.2.1.length c2) p.2.1.length (cellsA p.2.1)) :
 OwnP base w' v' (ps ++ [p]) (cs ++ [.slice A1 p.1.length c1,.slice A2 p.2.1.length c2,.string p.2.2]):=by
 refine ⟨by rw [List.length_append];exact ho,by rw [List.length_append,List.length_append,h.len];simp;omega,fun j q hj=>?_⟩
 rcases Nat.lt_or_ge j ps.length with hlt | hge
 ·rw [List.getElem?_append_left hlt] at hj
  obtain ⟨B1,d1,B2,d2,e1,e2,e3,k1,k2⟩:=h.each j q hj
  have hl:=h.len
  exact ⟨B1,d1,B2,d2,by rw [List.getElem?_append_left (by omega)];exact e1,by rw [List.getElem?_append_left (by omega)];exact e2,by rw [List.getElem?_append_left (by omega)];exact e3,k1.kept hg (own_type_ne3 k1 h.own (by decide)),k2.kept hg (own_type_ne3 k2 h.own (by decide))⟩
 ·rw [List.getElem?_append_right hge] at hj
  have h0:j=ps.length:=by
   have:=(List.getElem?_eq_some_iff.1 hj).1
   simp at this;omega
  subst h0
  rw [Nat.sub_self] at hj
  simp at hj
  subst hj
  have hl:=h.len
  refine ⟨A1,c1,A2,c2,?_,?_,?_,h1.kept hg (own_type_ne3 h1 h.own (by decide)),h2.kept hg (own_type_ne3 h2 h.own (by decide))⟩
  ·rw [List.getElem?_append_right (by omega),hl,Nat.sub_self];rfl
  ·rw [List.getElem?_append_right (by omega),hl,show ps.length * 3 + 1 - ps.length * 3=1 by omega];rfl
  ·rw [List.getElem?_append_right (by omega),hl,show ps.length * 3 + 2 - ps.length * 3=2 by omega];rfl
theorem OwnP.rp {A:Option Addr} {n c:Nat} (h:OwnP base w (.slice A n c) ps cs) (hn:n=ps.length):Ps w A ps:=fun h0=>by
 subst hn
 have hl:=h.len
 have h1:RC w w.heap.size A cs:=RC.of_own (n:=ps.length) h.own
 obtain ⟨ad,e,hb,hc⟩:=h1 (by omega)
 have hx:∀ j:Nat,∃ u v:Option Addr × Nat,∀ p,ps[j]? = some p→cs[j * 3]? = some (.slice u.1 p.1.length u.2)∧cs[j * 3 + 1]? = some (.slice v.1 p.2.1.length v.2)∧cs[j * 3 + 2]? = some (.string p.2.2)∧RC w w.heap.size u.1 (cellsA p.1)∧RC w w.heap.size v.1 (cellsA p.2.1):=fun j=>by
  cases hj:ps[j]? with
  | none=>exact ⟨(none,0),(none,0),fun p hp=>by cases hp⟩
  | some p =>
    obtain ⟨A1,c1,A2,c2,e1,e2,e3,k1,k2⟩:=h.each j p hj
    exact ⟨(A1,c1),(A2,c2),fun p' hp=>by
     injection hp with hp
     subst hp
     exact ⟨e1,e2,e3,RC.of_own k1,RC.of_own k2⟩⟩
 refine ⟨ad,fun j=>(hx j).choose,fun j=>(hx j).choose_spec.choose,e,hb,fun j p hj=>?_⟩
 obtain ⟨e1,e2,e3,r1,r2⟩:=(hx j).choose_spec.choose_spec p hj
 exact ⟨hc _ _ e1,hc _ _ e2,hc _ _ e3,r1,r2⟩
end
theorem cellP_one {A1 A2:Option Addr} {n1 c1 n2 c2:Nat} {t:ByteArray}:∀ u ∈ ([.slice A1 n1 c1,.slice A2 n2 c2,.string t]:List Value),u.oneCell'=true:=by
 intro u hu
 simp only [List.mem_cons,List.not_mem_nil,or_false] at hu
 rcases hu with rfl | rfl | rfl <;> rfl
theorem infoPartR:(Tryz.prog.info? 117).map (fun i=>(i.zero,i.size,i.bytes))=some (some (.agg #[.slice none 0 0,.slice none 0 0,.string ByteArray.empty]),3,64):=by kernel_rfl
def PartsO (W:World) (ps:List PL) (e:Ending) (w':World):Prop:=∃ R c z,Hid (z=ps.length)∧e = .returned (.slice R z c)∧Ps w' R ps∧Bel W w'
def tl (xs:List ByteArray):List UInt8:=xs.flatMap fun x=>45 :: x.data.toList
theorem tl_app (xs ys:List ByteArray):tl (xs ++ ys)=tl xs ++ tl ys:=List.flatMap_append
theorem tl_cons (x:ByteArray) (xs:List ByteArray):tl (x :: xs)=45 :: (x.data.toList ++ tl xs):=rfl
theorem tl_one (x:ByteArray):tl [x]=45 :: x.data.toList:=by simp [tl]
theorem tl_glue:∀ {xs:List ByteArray},xs ≠ []→tl xs=45 :: glue 45 (xs.map (·.data.toList))
 | [],h=>absurd rfl h
 | [x],_=>tl_one x
 | x :: y :: xs,_=>by
   rw [tl_cons,tl_glue (xs:=y :: xs) (by simp)]
   rfl
theorem tl_two (s u:ByteArray):tl [s ++ ⟨#[45]⟩ ++ u]=tl [s,u]:=by
 rw [tl_one,tl_cons,tl_one,app_data,app_data]
 simp
theorem parse_words {names ps l:List ByteArray} (h:(parseA names ps l).ok=true) :
 (∃ u r,l=u :: r∧(parseA names ps l).t=1∧showB (parseA names ps l).p (parseA names ps l).n ((parseA names ps l).k:Int)=u∧(parseA names ps l).p.size + (parseA names ps l).n.size=u.size) ∨
 (∃ s u r,l=s :: u :: r∧(parseA names ps l).t=2∧showB (parseA names ps l).p (parseA names ps l).n ((parseA names ps l).k:Int)=s ++ ⟨#[45]⟩ ++ u∧(parseA names ps l).p.size + (parseA names ps l).n.size=u.size):=by
 cases hu:l[(leadP l).2]? with
 | none=>unfold parseA at h;rw [hu] at h;cases h
 | some u =>
   have e:parseA names ps l=parseU names ps (leadP l).1 (leadP l).2 u:=by unfold parseA;rw [hu]
   rw [e] at h ⊢
   have hs:(sizeP names ps u).2=true:=by
    unfold parseU at h
    split at h
    ·assumption
    ·cases h
   have e2:parseU names ps (leadP l).1 (leadP l).2 u=⟨u.extract 0 (sizeP names ps u).1,restB u (sizeP names ps u).1,(leadP l).1,(leadP l).2 + 1,true⟩:=by unfold parseU;rw [if_pos hs]
   rw [e2]
   have hle:=sizeP_le names ps u
   have hj:=cut_join u _ hle
   have hz:(u.extract 0 (sizeP names ps u).1).size + (restB u (sizeP names ps u).1).size=u.size:=by rw [← ByteArray.size_append,hj]
   rcases leadP_form l with hl | ⟨s,r,hl1,hl2,h1,h2,h3⟩
   ·rw [hl] at hu ⊢
    left
    cases l with
    | nil=>simp at hu
    | cons u' r =>
      simp at hu
      subst hu
      refine ⟨u',r,rfl,rfl,?_,hz⟩
      show showB (u'.extract 0 _) (restB u' _) 1=u'
      unfold showB
      rw [if_neg (by omega),if_pos rfl,hj]
   ·rw [hl2] at hu ⊢
    right
    subst hl1
    cases r with
    | nil=>simp at hu
    | cons u' r =>
      simp at hu
      subst hu
      refine ⟨s,u',r,rfl,rfl,?_,hz⟩
      show showB (u'.extract 0 _) (restB u' _) ((powOf s:Nat):Int)=_
      unfold showB
      rw [if_neg (by omega),if_neg (by omega),hj,Int.toNat_natCast,← h3,join_two]
theorem atoms_T {names ps:List ByteArray}:∀ (k:Nat) {l:List ByteArray} {r:List AL} {m:Nat},l.length≤k→atomsL names ps l=some r→(∀ x ∈ l,x.size≤m)→tl (showsA r)=tl l∧SmallL r m
 | _,[],r,m,_,h,_=>by injection h with h;subst h;exact ⟨rfl,fun a ha=>by cases ha⟩
 | 0,u :: l,r,m,hk,h,_=>by simp at hk
 | k + 1,u0 :: l,r,m,hk,h,hm=>by
   by_cases e:(parseA names ps (u0 :: l)).ok=true
   ·rw [atomsL_more e] at h
    have hw:=parse_words e
    obtain ⟨pa,hpa⟩:∃ x,parseA names ps (u0 :: l)=x:=⟨_,rfl⟩
    rw [hpa] at h hw
    cases hh:atomsL names ps ((u0 :: l).drop pa.t) with
    | none=>rw [hh] at h;cases h
    | some r' =>
      rw [hh] at h
      injection h with h
      have hx:∀ {xs ys:List ByteArray},xs.length=pa.t→u0 :: l=xs ++ ys→0 < pa.t→tl [showB pa.p pa.n (pa.k:Int)]=tl xs→pa.p.size + pa.n.size≤m→tl (showsA r)=tl (u0 :: l)∧SmallL r m:=fun {xs ys} hl hxy h0 ht hs=>by
       have hd:(u0 :: l).drop pa.t=ys:=by rw [hxy,← hl,List.drop_left]
       rw [hd] at hh
       have hy:ys.length≤k:=by
        have:=congrArg List.length hxy
        rw [List.length_append,List.length_cons] at this
        simp at hk;omega
       obtain ⟨i1,i2⟩:=atoms_T k hy hh (fun x hx=>hm x (by rw [hxy];exact List.mem_append_right _ hx))
       rw [← h,hxy,tl_app]
       refine ⟨?_,fun a ha=>?_⟩
       ·show tl (showB pa.p pa.n (pa.k:Int) :: showsA r')=_
        rw [← i1,← ht,← tl_app];rfl
       ·rcases List.mem_cons.1 ha with rfl | ha
        ·exact hs
        ·exact i2 a ha
      rcases hw with ⟨u,r0,e1,e2,e3,e4⟩ | ⟨s,u,r0,e1,e2,e3,e4⟩
      ·refine hx (xs:=[u]) (ys:=r0) (by rw [e2];rfl) (by rw [e1];rfl) (by omega) (by rw [e3]) ?_
       rw [e4];exact hm u (by rw [e1];simp)
      ·refine hx (xs:=[s,u]) (ys:=r0) (by rw [e2];rfl) (by rw [e1];rfl) (by omega) (by rw [e3,tl_two]) ?_
       rw [e4];exact hm u (by rw [e1];simp)
   ·rw [atomsL_bad (by simp) (by simpa using e)] at h;cases h
theorem glue_sole {l a:List ByteArray} (h:cutBy perB l=[a]):l=a:=by
 have:=glue_cutBy (a:=perB) l
 rw [h] at this
 exact this.symm
theorem glue_pair {l a d:List ByteArray} (h:cutBy perB l=[a,d]):l=a ++ perB :: d:=by
 have:=glue_cutBy (a:=perB) l
 rw [h] at this
 exact this.symm
theorem headD_T (d:List ByteArray) (h:d ≠ []):((headD d).1=oneB∧(headD d).2=d) ∨ ((headD d).1 ≠ oneB∧d=(headD d).1 :: (headD d).2):=by
 cases d with
 | nil=>exact absurd rfl h
 | cons x d =>
   by_cases e:numW x.data.toList=true∧x ≠ oneB
   ·right
    have e2:headD (x :: d)=(x,d):=if_pos e
    rw [e2];exact ⟨e.2,rfl⟩
   ·left
    have e2:headD (x :: d)=(oneB,x :: d):=if_neg e
    rw [e2];exact ⟨rfl,rfl⟩
theorem part_T {names ps l:List ByteArray} {p:PL} {m:Nat} (h:partD names ps l=some p) (hm:∀ x ∈ l,x.size≤m):tl (partW p)=tl l∧SmallL p.1 m∧SmallL p.2.1 m∧l ≠ []∧partW p ≠ []:=by
 unfold partD at h
 have key:tl (partW p)=tl l→l ≠ []→partW p ≠ []:=fun h1 h2 h3=>by
  rw [h3] at h1
  cases l with
  | nil=>exact h2 rfl
  | cons x l=>rw [tl_cons] at h1;cases h1
 match hc:cutBy perB l with
 | []=>rw [hc] at h;cases h
 | _ :: _ :: _ :: _=>rw [hc] at h;cases h
 | [a] =>
   rw [hc,partC_sole] at h
   cases hr:atomsL names ps a with
   | none=>rw [hr] at h;cases h
   | some r =>
     rw [hr] at h
     simp only [Option.bind_some] at h
     by_cases h1:0 < r.length∧r.length≤8
     ·rw [if_pos h1] at h
      injection h with h
      subst h
      obtain rfl:=glue_sole hc
      obtain ⟨i1,i2⟩:=atoms_T _ (Nat.le_refl _) hr hm
      have e:partW (r,[],oneB)=showsA r:=if_pos ⟨rfl,rfl⟩
      have hl:l ≠ []:=fun e0=>by
       subst e0
       injection hr with hr
       subst hr
       exact absurd h1.1 (by decide)
      have h5:tl (partW (r,[],oneB))=tl l:=by rw [e];exact i1
      exact ⟨h5,i2,(fun a ha=>by cases ha),hl,key h5 hl⟩
     ·rw [if_neg h1] at h;cases h
 | [a,d] =>
   rw [hc,partC_two] at h
   by_cases h0:d=[]
   ·rw [if_pos h0] at h;cases h
   ·rw [if_neg h0] at h
    cases hr:atomsL names ps a with
    | none=>rw [hr] at h;cases h
    | some r =>
      cases hs:atomsL names ps (headD d).2 with
      | none=>rw [hr,hs] at h;cases h
      | some s =>
        rw [hr,hs] at h
        simp only [Option.bind_some] at h
        by_cases h1:r.length + s.length≤8
        ·rw [if_pos h1] at h
         injection h with h
         subst h
         have hg:=glue_pair hc
         have hl:l ≠ []:=by rw [hg];simp
         have hma:∀ x ∈ a,x.size≤m:=fun x hx=>hm x (by rw [hg];exact List.mem_append_left _ hx)
         have hmd:∀ x ∈ (headD d).2,x.size≤m:=fun x hx=>hm x (by
          rw [hg]
          refine List.mem_append_right _ (List.mem_cons_of_mem _ ?_)
          rcases headD_T d h0 with ⟨_,e⟩ | ⟨_,e⟩
          ·rw [e] at hx;exact hx
          ·rw [e];exact List.mem_cons_of_mem _ hx)
         obtain ⟨i1,i2⟩:=atoms_T _ (Nat.le_refl _) hr hma
         obtain ⟨j1,j2⟩:=atoms_T _ (Nat.le_refl _) hs hmd
         have h5:tl (partW (r,s,(headD d).1))=tl l:=by
          rcases headD_T d h0 with ⟨e1,e2⟩ | ⟨e1,e2⟩
          ·rw [e2] at hs j1
           have hs0:s ≠ []:=fun e0=>by
            have:=atomsL_pos hs h0
            rw [e0] at this
            exact absurd this (by decide)
           have e3:partW (r,s,(headD d).1)=showsA r ++ [perB] ++ showsA s:=by
            rw [e1]
            exact (if_neg (fun k=>hs0 k.1)).trans (if_pos rfl)
           rw [e3,tl_app,tl_app,i1,j1,hg,tl_app]
           rw [show perB :: d=[perB] ++ d from rfl,tl_app,List.append_assoc]
          ·have e3:partW (r,s,(headD d).1)=showsA r ++ [perB] ++ [(headD d).1] ++ showsA s :=
            (if_neg (fun k=>e1 k.2)).trans (if_neg e1)
           rw [e3,tl_app,tl_app,tl_app,i1,j1,hg,tl_app]
           rw [show perB :: d=[perB] ++ ([(headD d).1] ++ (headD d).2) from by rw [show [(headD d).1] ++ (headD d).2=d from e2.symm];rfl,tl_app,tl_app]
           simp only [List.append_assoc]
         exact ⟨h5,i2,j2,hl,key h5 hl⟩
        ·rw [if_neg h1] at h;cases h
theorem partS_T {names ps l:List ByteArray} {p:PL} {m:Nat} (h:partD names ps l=some p) (hm:∀ x ∈ l,x.size≤m):45 :: (partS p).data.toList=tl l:=by
 obtain ⟨h1,_,_,_,h5⟩:=part_T h hm
 rw [← h1,tl_glue h5];rfl
theorem parts_T {names ps:List ByteArray} {m:Nat}:∀ {css:List (List ByteArray)} {r:List PL},css ≠ []→partsL names ps css=some r→(∀ l ∈ css,∀ x ∈ l,x.size≤m) →
 45 :: Lib.join ((r.map partS).map (·.data.toList)) sepB.data.toList=tl (glue andB css)
 | [],_,h,_,_=>absurd rfl h
 | [l],r,_,h,hm=>by
   unfold partsL at h
   cases hp:partD names ps l with
   | none=>rw [hp] at h;cases h
   | some p =>
     rw [hp] at h
     injection h with h
     subst h
     show 45 :: Lib.join [(partS p).data.toList] _=tl l
     rw [Lib.join_one]
     exact partS_T hp (hm l (by simp))
 | l :: l2 :: css,r,_,h,hm=>by
   unfold partsL at h
   cases hp:partD names ps l with
   | none=>rw [hp] at h;cases h
   | some p =>
     rw [hp] at h
     simp only [Option.bind_some] at h
     cases hr:partsL names ps (l2 :: css) with
     | none=>rw [hr] at h;cases h
     | some r' =>
       rw [hr] at h
       injection h with h
       have ih:=parts_T (by simp) hr (fun l' hl'=>hm l' (List.mem_cons_of_mem _ hl'))
       have h1:=partS_T hp (hm l (by simp))
       have hlen:=partsL_len hr
       cases r' with
       | nil=>simp at hlen
       | cons p2 r2 =>
         rw [← h]
         show 45 :: Lib.join ((partS p).data.toList :: ((p2 :: r2).map partS).map (·.data.toList)) sepB.data.toList=tl (l ++ andB :: glue andB (l2 :: css))
         rw [show andB :: glue andB (l2 :: css)=[andB] ++ glue andB (l2 :: css) from rfl,tl_app,tl_app,← ih,← h1,tl_one]
         rw [Lib.join_cons]
         show 45 :: ((partS p).data.toList ++ Lib.joinTail _ ((partS p2).data.toList :: (r2.map partS).map (·.data.toList)))=_
         rw [show ((p2 :: r2).map partS).map (·.data.toList)=(partS p2).data.toList :: (r2.map partS).map (·.data.toList) from rfl,Lib.join_cons]
         unfold Lib.joinTail
         rw [List.map_cons,List.flatten_cons]
         show _=45 :: (partS p).data.toList ++ (45 :: andB.data.toList ++ (45 :: ((partS p2).data.toList ++ _)))
         rw [show sepB.data.toList=45 :: andB.data.toList ++ [45] from by decide +kernel]
         simp
theorem unit_back {names ps:List ByteArray} {s:ByteArray} {r:List PL} (h:unitD names ps s = .ok r):unitS r=s:=by
 obtain ⟨h1,h2,h3,h4⟩:=unitD_ok h
 have hm:∀ l ∈ cutBy andB (pcs s),∀ x ∈ l,x.size≤20:=fun l hl x hx=>goodAll_size h2 x (cutBy_mem _ l hl x hx)
 have hne:pcs s ≠ []:=fun e=>by have:=pcs_len s;rw [e] at this;simp at this
 have h5:=parts_T (cutBy_ne _) h3 hm
 rw [glue_cutBy,tl_glue hne,pcs_parts] at h5
 have h6:glue 45 (parts s.data.toList)=s.data.toList:=glue_cutBy _
 rw [h6,← unitS_join] at h5
 injection h5 with _ h5
 exact ByteArray.ext (Array.ext' h5)
theorem map_back {r:List PL} (h:∀ p ∈ r,okP p):(r.map ofP).map toP=r:=by
 rw [List.map_map]
 conv=>rhs;rw [← List.map_id r]
 exact List.map_congr_left fun p hp=>toP_ofP (h p hp)
theorem great_of {names ps l:List ByteArray} {p:PL} (h:partD names ps l=some p) (hm:∀ x ∈ l,x.size≤20):greatQ (ofP p)=false:=by
 obtain ⟨_,h2,h3,_,_⟩:=part_T h hm
 have h4:okP p∧p.1.length + p.2.1.length≤8:=partC_ok h
 have h5:(digs W32 (nuOf p.2.2)).length≤3:=numW_dl h4.1
 have a1:∀ {l:List AL},SmallL l 20→l.any longA=false:=fun {l} hs=>by
  rw [List.any_eq_false]
  intro a ha
  unfold longA
  have:=hs a ha
  simp;omega
 unfold greatQ
 show (decide (3 < (digs W32 (nuOf p.2.2)).length) || (decide (8 < p.1.length + p.2.1.length) || (p.1.any longA || p.2.1.any longA)))=false
 rw [a1 h2,a1 h3,decide_eq_false (by omega),decide_eq_false (by omega)];rfl
theorem greats_of {names ps:List ByteArray}:∀ {css:List (List ByteArray)} {r:List PL},partsL names ps css=some r→(∀ l ∈ css,∀ x ∈ l,x.size≤20)→(r.map ofP).any greatQ=false
 | [],r,h,_=>by injection h with h;subst h;rfl
 | l :: css,r,h,hm=>by
   unfold partsL at h
   cases hp:partD names ps l with
   | none=>rw [hp] at h;cases h
   | some p =>
     cases hr:partsL names ps css with
     | none=>rw [hp,hr] at h;cases h
     | some r' =>
       rw [hp,hr] at h
       injection h with h
       rw [← h]
       show (greatQ (ofP p) || (r'.map ofP).any greatQ)=false
       rw [great_of hp (hm l (by simp)),greats_of hr (fun l' hl'=>hm l' (List.mem_cons_of_mem _ hl'))];rfl
end Go.Proofs.YtfflmmbhpchloaaGreatDoor
end
section
open Go.RowKit
open Go.Proofs.YtfflmmbhpchloaaGreatDoor.V
namespace Go.Proofs.YtfflmmbhpchloaaGreatDoor
theorem bytes_inj {x y:ByteArray} (h:x.data.toList=y.data.toList):x=y:=by
 obtain ⟨a⟩:=x
 obtain ⟨b⟩:=y
 have:a=b:=by rw [← Array.toArray_toList (xs:=a),← Array.toArray_toList (xs:=b)];exact congrArg List.toArray h
 rw [this]
def kphB:ByteArray:=⟨#[107,112,104]⟩
theorem unitD_fit {names ps:List ByteArray} {s:ByteArray} {r:List PL} (hD:unitD names ps s = .ok r):(∀ q ∈ r.map ofP,Good32 q.2.2)∧(r.map ofP).any greatQ=false∧(r.map ofP).map toP=r∧r.length≤4:=by
 obtain ⟨k1,k2,k3,k4⟩:=unitD_ok hD
 have hok:=partsL_ok k3
 refine ⟨fun q hq=>?_,greats_of k3 (fun l hl x hx=>goodAll_size k2 x (cutBy_mem _ l hl x hx)),map_back (fun p hp=>(hok p hp).1),k4⟩
 obtain ⟨p,_,rfl⟩:=List.mem_map.1 hq
 exact digs_good _
section
variable {names ps l:List ByteArray} {w s:ByteArray}
structure NoWd (names ps:List ByteArray) (w:ByteArray):Prop where
 nm:(sizeP names ps w).2=false
 pw:powOf w=0
 nu:numW w.data.toList=false
 pe:w ≠ perB
 an:w ≠ andB
theorem take_bad (h:(parseA names ps l).ok=true) (hw:NoWd names ps w):w ∉ l.take (parseA names ps l).t:=by
 cases hu:l[(leadP l).2]? with
 | none=>unfold parseA at h;rw [hu] at h;cases h
 | some u =>
   have e:parseA names ps l=parseU names ps (leadP l).1 (leadP l).2 u:=by unfold parseA;rw [hu]
   rw [e] at h ⊢
   have hs:(sizeP names ps u).2=true:=by
    unfold parseU at h
    split at h
    ·assumption
    ·cases h
   have e2:parseU names ps (leadP l).1 (leadP l).2 u=⟨u.extract 0 (sizeP names ps u).1,restB u (sizeP names ps u).1,(leadP l).1,(leadP l).2 + 1,true⟩:=by unfold parseU;rw [if_pos hs]
   rw [e2]
   have hne:w ≠ u:=fun e=>by rw [← e,hw.nm] at hs;cases hs
   rcases leadP_form l with hl | ⟨s,r,hl1,hl2,h1,h2,h3⟩
   ·rw [hl] at hu ⊢
    cases l with
    | nil=>simp at hu
    | cons u' r =>
      simp at hu
      subst hu
      simpa using hne
   ·rw [hl2] at hu ⊢
    subst hl1
    cases r with
    | nil=>simp at hu
    | cons u' r =>
      simp at hu
      subst hu
      have hns:w ≠ s:=fun e=>by have:=hw.pw;rw [e] at this;omega
      simpa using ⟨hns,hne⟩
theorem atoms_bad (hw:NoWd names ps w):∀ (k:Nat) {l:List ByteArray} {r:List AL},l.length≤k→atomsL names ps l=some r→w ∉ l
 | _,[],_,_,_=>by simp
 | 0,u :: l,_,hk,_=>by simp at hk
 | k + 1,u :: l,r,hk,h=>by
   by_cases e:(parseA names ps (u :: l)).ok=true
   ·have h1:=parseA_t e
    rw [atomsL_more e] at h
    cases hh:atomsL names ps ((u :: l).drop (parseA names ps (u :: l)).t) with
    | none=>rw [hh] at h;cases h
    | some r' =>
      have ih:=atoms_bad hw k (by rw [List.length_drop];simp at hk ⊢;omega) hh
      have ht:=take_bad e hw
      intro hm
      rw [← List.take_append_drop (parseA names ps (u :: l)).t (u :: l)] at hm
      rcases List.mem_append.1 hm with hm | hm
      ·exact ht hm
      ·exact ih hm
   ·rw [atomsL_bad (by simp) (by simpa using e)] at h;cases h
theorem part_bad (hw:NoWd names ps w) {p:PL} (h:partD names ps l=some p):w ∉ l:=by
 unfold partD at h
 match hc:cutBy perB l,h with
 | [a],h =>
   rw [glue_sole hc]
   unfold partC at h
   dsimp only at h
   cases ha:atomsL names ps a with
   | none=>rw [ha] at h;cases h
   | some r=>exact atoms_bad hw _ (Nat.le_refl _) ha
 | [a,d],h =>
   rw [glue_pair hc]
   unfold partC at h
   dsimp only at h
   by_cases hd:d=[]
   ·rw [if_pos hd] at h;cases h
   ·rw [if_neg hd] at h
    cases ha:atomsL names ps a with
    | none=>rw [ha] at h;cases h
    | some r =>
      cases hb:atomsL names ps (headD d).2 with
      | none=>rw [ha,hb] at h;cases h
      | some r2 =>
        have h1:=atoms_bad hw _ (Nat.le_refl _) ha
        have h2:=atoms_bad hw _ (Nat.le_refl _) hb
        intro hm
        rcases List.mem_append.1 hm with hm | hm
        ·exact h1 hm
        ·rcases List.mem_cons.1 hm with hm | hm
         ·exact hw.pe hm
         ·cases d with
          | nil=>cases hm
          | cons x d =>
            by_cases e:numW x.data.toList=true∧x ≠ oneB
            ·have e2:headD (x :: d)=(x,d):=if_pos e
             rw [e2] at h2
             rcases List.mem_cons.1 hm with hm | hm
             ·rw [← hm,hw.nu] at e;exact absurd e.1 (by decide)
             ·exact h2 hm
            ·have e2:headD (x :: d)=(oneB,x :: d):=if_neg e
             rw [e2] at h2
             exact h2 hm
theorem parts_bad (hw:NoWd names ps w):∀ {css:List (List ByteArray)} {r:List PL},partsL names ps css=some r → ∀ a ∈ css,w ∉ a
 | [],_,_,a,ha=>by cases ha
 | c :: css,r,h,a,ha=>by
   unfold partsL at h
   cases hc:partD names ps c with
   | none=>rw [hc] at h;cases h
   | some p =>
     cases hr:partsL names ps css with
     | none=>rw [hc,hr] at h;cases h
     | some r' =>
       rcases List.mem_cons.1 ha with rfl | ha
       ·exact part_bad hw hc
       ·exact parts_bad hw hr a ha
theorem mem_glue {a:ByteArray}:∀ {css:List (List ByteArray)},w ∈ glue a css→w=a ∨ ∃ c ∈ css,w ∈ c
 | [],h=>by simp [glue] at h
 | [c],h=>.inr ⟨c,by simp,by simpa [glue] using h⟩
 | c :: d :: css,h=>by
   rw [glue_cons _ (by simp)] at h
   rcases List.mem_append.1 h with h | h
   ·exact .inr ⟨c,by simp,h⟩
   ·rcases List.mem_cons.1 h with h | h
    ·exact .inl h
    ·rcases mem_glue h with h | ⟨c',h1,h2⟩
     ·exact .inl h
     ·exact .inr ⟨c',List.mem_cons_of_mem _ h1,h2⟩
theorem unit_bad (hw:NoWd names ps w) {r:List PL} (h:unitD names ps s = .ok r):w ∉ pcs s:=by
 obtain ⟨_,_,h3,_⟩:=unitD_ok h
 intro hm
 rw [← glue_cutBy (a:=andB) (pcs s)] at hm
 rcases mem_glue hm with hm | ⟨c,hc,hm⟩
 ·exact hw.an hm
 ·exact parts_bad hw h3 c hc hm
end
theorem join_pcs (s:ByteArray):joinS (pcs s)=s:=by
 apply bytes_inj
 unfold joinS
 rw [pcs_parts]
 exact glue_cutBy (a:=(45:UInt8)) s.data.toList
theorem kph_no:NoWd metricT.names metricT.prefs kphB:=⟨by decide +kernel,by decide +kernel,by decide +kernel,by decide +kernel,by decide +kernel⟩
theorem metric_kph:metricT.als.all (fun a=>decide (a.1=kphB))=true:=by decide +kernel
theorem sub_no {s:ByteArray} (h:s ≠ kphB):metricT.sub s=s:=by
 unfold Tb.sub
 cases hl:lookL metricT.als s with
 | none=>rfl
 | some v =>
   have h1:=of_decide_eq_true (List.all_eq_true.1 metric_kph _ (lookL_mem hl))
   exact absurd h1 h
theorem parse_again {id:ByteArray} {ps:List PL} (h:metricT.parse id = .ok ps):metricT.parse (unitS ps) = .ok ps:=by
 have hD:∃ u,unitD metricT.names metricT.prefs u = .ok ps:=by
  unfold Tb.parse at h
  split at h
  ·cases h
  ·split at h
   ·exact ⟨_,h⟩
   ·cases h
 obtain ⟨u,hD⟩:=hD
 have hb:=unit_bad kph_no hD
 rw [unit_back hD]
 obtain ⟨h1,h2,_,_⟩:=unitD_ok hD
 unfold Tb.parse
 rw [if_neg (by omega),if_pos h2]
 have e:(pcs u).map metricT.sub=pcs u:=by
  rw [List.map_congr_left (g:=fun x=>x) (fun w hw=>sub_no (fun e=>hb (e ▸ hw)))]
  simp
 rw [e,join_pcs]
 exact hD
end Go.Proofs.YtfflmmbhpchloaaGreatDoor
end
section
open Go.RowKit
namespace Go.Proofs.YtfflmmbhpchloaaGreatDoor
section
end
def PowB (l:List AL):Prop:=∀ a ∈ l,0≤a.2.2∧a.2.2≤15
theorem parseA_k (names ps l:List ByteArray):(parseA names ps l).k≤15:=by
 unfold parseA
 split
 ·exact Nat.zero_le _
 ·unfold parseU
  split
  ·show (leadP l).1≤15
   rcases leadP_form l with h | ⟨_,_,_,h,_,h1,_⟩
   ·rw [h];decide
   ·rw [h];show powOf _≤15;omega
  ·exact Nat.zero_le _
theorem atomsF_pow {names ps:List ByteArray}:∀ (f:Nat) {l:List ByteArray} {r:List AL},atomsF names ps f l=some r→PowB r
 | f,[],r,h=>by
   cases f <;> (injection h with h;subst h;intro a ha;cases ha)
 | 0,u :: l,r,h=>by cases h
 | f + 1,u :: l,r,h=>by
   unfold atomsF at h
   split at h
   ·cases hh:atomsF names ps f ((u :: l).drop (parseA names ps (u :: l)).t) with
    | none=>rw [hh] at h;cases h
    | some r' =>
      rw [hh] at h
      injection h with h
      subst h
      intro a ha
      rcases List.mem_cons.1 ha with rfl | ha
      ·have:=parseA_k names ps (u :: l)
       show (0:Int)≤((parseA names ps (u :: l)).k:Int)∧((parseA names ps (u :: l)).k:Int)≤15
       omega
      ·exact atomsF_pow f hh a ha
   ·cases h
theorem atomsL_pow {names ps l:List ByteArray} {r:List AL} (h:atomsL names ps l=some r):PowB r:=atomsF_pow _ h
theorem partC_pow {names ps:List ByteArray} {css:List (List ByteArray)} {p:PL} (h:partC names ps css=some p):PowB p.1∧PowB p.2.1:=by
 match css,h with
 | [],h=>cases h
 | _ :: _ :: _ :: _,h=>cases h
 | [a],h =>
   rw [partC_sole] at h
   cases hr:atomsL names ps a with
   | none=>rw [hr] at h;cases h
   | some r =>
     rw [hr] at h
     simp only [Option.bind_some] at h
     by_cases h1:0 < r.length∧r.length≤8
     ·rw [if_pos h1] at h
      injection h with h
      subst h
      exact ⟨atomsL_pow hr,fun a ha=>by cases ha⟩
     ·rw [if_neg h1] at h;cases h
 | [a,d],h =>
   rw [partC_two] at h
   by_cases h0:d=[]
   ·rw [if_pos h0] at h;cases h
   ·rw [if_neg h0] at h
    cases hr:atomsL names ps a with
    | none=>rw [hr] at h;cases h
    | some r =>
      cases hs:atomsL names ps (headD d).2 with
      | none=>rw [hr,hs] at h;cases h
      | some s =>
        rw [hr,hs] at h
        simp only [Option.bind_some] at h
        by_cases h1:r.length + s.length≤8
        ·rw [if_pos h1] at h
         injection h with h
         subst h
         exact ⟨atomsL_pow hr,atomsL_pow hs⟩
        ·rw [if_neg h1] at h;cases h
theorem partsL_pow {names ps:List ByteArray}:∀ {css:List (List ByteArray)} {r:List PL},partsL names ps css=some r → ∀ p ∈ r,PowB p.1∧PowB p.2.1
 | [],r,h=>by injection h with h;subst h;intro p hp;cases hp
 | b :: css,r,h=>by
   unfold partsL at h
   cases hb:partD names ps b with
   | none=>rw [hb] at h;cases h
   | some q =>
     cases ht:partsL names ps css with
     | none=>rw [hb,ht] at h;cases h
     | some r' =>
       rw [hb,ht] at h
       injection h with h
       rw [← h]
       intro p hp
       rcases List.mem_cons.1 hp with rfl | hp
       ·exact partC_pow hb
       ·exact partsL_pow ht p hp
theorem PowB.pows {l:List AL} (h:PowB l):PowsQ l:=fun a ha=>by have:=h a ha;omega
theorem foldQ_mem:∀ {s acc r:List AL},foldQ acc s=some r→r.length≤acc.length + s.length ∧ ∀ a ∈ r,(∃ b ∈ acc,b.1=a.1∧b.2.1=a.2.1) ∨ ∃ b ∈ s,b.1=a.1∧b.2.1=a.2.1
 | [],acc,r,h=>by
   injection h with h;subst h
   exact ⟨by simp,fun a ha=>.inl ⟨a,ha,rfl,rfl⟩⟩
 | x :: s,acc,r,h=>by
   rw [foldQ] at h
   cases hx:addQ acc x with
   | none=>rw [hx] at h;cases h
   | some acc' =>
     rw [hx] at h
     obtain ⟨h1,h2⟩:=foldQ_mem h
     have key:acc'.length≤acc.length + 1 ∧ ∀ a ∈ acc',(∃ b ∈ acc,b.1=a.1∧b.2.1=a.2.1) ∨ (x.1=a.1∧x.2.1=a.2.1):=by
      rcases list_last acc with ha | ⟨acc0,q,ha⟩
      ·subst ha
       rw [addQ_nil] at hx
       injection hx with hx
       subst hx
       exact ⟨by simp,fun a ha=>.inr (by simp at ha;subst ha;exact ⟨rfl,rfl⟩)⟩
      ·subst ha
       by_cases he:q.1=x.1∧q.2.1=x.2.1
       ·by_cases hp:15 < q.2.2 + x.2.2
        ·rw [addQ_long he hp] at hx;cases hx
        ·rw [addQ_sum he hp] at hx
         injection hx with hx
         subst hx
         refine ⟨by simp,fun a ha=>?_⟩
         rcases List.mem_append.1 ha with ha | ha
         ·exact .inl ⟨a,by simp [ha],rfl,rfl⟩
         ·obtain rfl:=List.mem_singleton.1 ha
          exact .inr ⟨he.1.symm,he.2.symm⟩
       ·rw [addQ_ne he] at hx
        injection hx with hx
        subst hx
        refine ⟨by simp,fun a ha=>?_⟩
        rcases List.mem_append.1 ha with ha | ha
        ·exact .inl ⟨a,ha,rfl,rfl⟩
        ·obtain rfl:=List.mem_singleton.1 ha
         exact .inr ⟨rfl,rfl⟩
     refine ⟨by simp only [List.length_cons];omega,fun a ha=>?_⟩
     rcases h2 a ha with ⟨b,hb,e1,e2⟩ | ⟨b,hb,e1,e2⟩
     ·rcases key.2 b hb with ⟨b',hb',e3,e4⟩ | ⟨e3,e4⟩
      ·exact .inl ⟨b',hb',e3.trans e1,e4.trans e2⟩
      ·exact .inr ⟨x,by simp,e3.trans e1,e4.trans e2⟩
     ·exact .inr ⟨b,by simp [hb],e1,e2⟩
theorem combL_mem {l r:List AL} (h:combL l=some r):r.length≤l.length ∧ ∀ a ∈ r,∃ b ∈ l,b.1=a.1∧b.2.1=a.2.1:=by
 obtain ⟨h1,h2⟩:=foldQ_mem h
 rw [sortQ_len] at h1
 refine ⟨by simpa using h1,fun a ha=>?_⟩
 rcases h2 a ha with ⟨b,hb,_⟩ | ⟨b,hb,e⟩
 ·cases hb
 ·exact ⟨b,((sortQ_facts l).1.mem_iff).1 hb,e⟩
theorem longA_of {a b:AL} (h1:b.1=a.1) (h2:b.2.1=a.2.1):longA a=longA b:=by unfold longA;rw [h1,h2]
theorem any_long {l r:List AL} (h:combL l=some r) (hl:l.any longA=false):r.any longA=false:=by
 rw [Bool.eq_false_iff]
 intro h9
 obtain ⟨a,ha,ha2⟩:=List.any_eq_true.1 h9
 obtain ⟨b,hb,e1,e2⟩:=(combL_mem h).2 a ha
 rw [longA_of e1 e2] at ha2
 exact List.any_eq_false.1 hl b hb ha2
theorem norm_great {q r:QL} (h:normQ q=some r) (hg:greatQ q=false) (hw:Good32 q.2.2):greatQ r=false∧Good32 r.2.2:=by
 obtain ⟨l1,l2,ws⟩:=q
 unfold normQ at h
 cases ha:combL l1 with
 | none=>simp only [ha] at h;cases h
 | some a =>
   cases hb:combL l2 with
   | none=>simp only [ha,hb] at h;cases h
   | some b =>
     simp only [ha,hb] at h
     injection h with h
     subst h
     unfold greatQ at hg ⊢
     simp only [Bool.or_eq_false_iff,decide_eq_false_iff_not] at hg ⊢
     obtain ⟨g1,g2,g3,g4⟩:=hg
     have m1:=(combL_mem ha).1
     have m2:=(combL_mem hb).1
     refine ⟨⟨?_,by omega,any_long ha g3,any_long hb g4⟩,digs_good _⟩
     have hv:val W32 ws < W32 ^ 3:=Nat.lt_of_lt_of_le (val_lt _ hw) (Nat.pow_le_pow_right (by decide) (by omega))
     have:=dl_le (k:=3) hv
     show ¬ 3 < dl (val W32 ws)
     omega
theorem normQs_great:∀ {qs rs:List QL},normQs qs=some rs→qs.any greatQ=false→(∀ q ∈ qs,Good32 q.2.2)→rs.length=qs.length∧rs.any greatQ=false ∧ ∀ r ∈ rs,Good32 r.2.2
 | [],rs,h,_,_=>by injection h with h;subst h;exact ⟨rfl,rfl,fun r hr=>by cases hr⟩
 | q :: qs,rs,h,hg,hw=>by
   unfold normQs at h
   cases hq:normQ q with
   | none=>rw [hq] at h;cases h
   | some r =>
     cases ht:normQs qs with
     | none=>rw [hq,ht] at h;cases h
     | some rs' =>
       rw [hq,ht] at h
       injection h with h
       subst h
       rw [List.any_cons,Bool.or_eq_false_iff] at hg
       obtain ⟨e1,e2,e3⟩:=normQs_great ht hg.2 (fun q hq=>hw q (List.mem_cons_of_mem _ hq))
       obtain ⟨f1,f2⟩:=norm_great hq hg.1 (hw q (by simp))
       refine ⟨by simp [e1],by rw [List.any_cons,f1,e2];rfl,fun r' hr=>?_⟩
       rcases List.mem_cons.1 hr with rfl | hr
       ·exact f2
       ·exact e3 r' hr
section
theorem atomOf11_any (p n:ByteArray) (k:Int) (w:World):Calls Tryz.prog 117 #[.agg #[.string p,.string n,.int .i64 k]] w (RetAA w p n k):=by
 obtain ⟨W1,hW1⟩:∃ X,X=(w.alloc (.cells #[.string p,.string n,.int .i64 k] 96)).alloc (.cells #[.string ⟨#[]⟩,.string ⟨#[]⟩,.int .i64 0] 166):=⟨_,rfl⟩
 have HA:At W1 w.heap.size [.string p,.string n,.int .i64 k]:=by rw [hW1];exact (at_new0 _ _ _).al _
 have HR:At W1 (w.heap.size + 1) [.string ⟨#[]⟩,.string ⟨#[]⟩,.int .i64 0]:=by rw [hW1];exact at_new1 _ _ _ _
 have HB:Bel w W1:=by rw [hW1];exact ((Bel.refl w).al _).al _
 have HW:=khide hW1
 clear hW1
 have ha_0:=HA.c0;have ha_1:=HA.c1;have ha_2:=HA.c2;have ha_l:=HA.lt
 have hr_0:=HR.c0;have hr_1:=HR.c1;have hr_2:=HR.c2;have hr_l:=HR.lt;have hr_f0:=HR.f0;have hr_f1:=HR.f1;have hr_f2:=HR.f2
 go_enter Tryz.func117,Tryz.ntmps117
 go_upto_region 1 with fail
 rw [← HW.out]
 go_wp2_with fail
 refine bodyPost_ret (v:=.agg #[.string p,.string n,.int .i64 k]) (by simp [results,Tryz.results117,go_sem,hr_0,hr_1,hr_2]) rfl ⟨rfl,kbelow3 HB (by omega) _ _ _⟩
theorem atomsOf11_any {A:Option Addr} {n c:Nat} {l:List AL} {w:World} (h:Cs w A (cellsA l)) (hn:n=l.length) (hl:n≤1000000):Calls Tryz.prog 83 #[.slice A n c] w (AtomsOR w l):=by
 have HN:=khide hn
 obtain ⟨i0,hi,hz0,hz1,hz2⟩:=info_parts infoAtomC
 have J0:=khide hi;have Y0:=khide hz0;have Y1:=khide hz1;have Y2:=khide hz2
 clear hi hz0 hz1 hz2 hn
 go_enter Tryz.func83,Tryz.ntmps83
 go_wp2
 go_loopw [3,4] (fun rv iv wr=>∃ (k cp:Nat) (R:Option Addr),k≤n∧iv = .int .i64 (k:Int)∧rv = .slice R k cp∧Hid (k=0→R=none∧cp=0)∧Hid (wr.ownsRow w.heap.size 166 3 (.slice R k cp) k (cellsA (l.take k)))∧Hid (Below w.heap.size w wr)) (fun _ iv _=>n - (intOf iv).toNat)
 case atStart=>exact ⟨0,0,none,Nat.zero_le _,rfl,rfl,fun _=>⟨rfl,rfl⟩,World.ownsRow_nil _ _ _ _,Below.refl _ _⟩
 case round =>
  obtain ⟨k,cp,R,hk,rfl,rfl,HZ,HO,HB⟩:=hrel
  by_cases hlt:k < n
  ·obtain ⟨a,ha⟩:∃ a,l[k]? = some a:=⟨l[k]'(by rw [← HN.out];exact hlt),List.getElem?_eq_getElem _⟩
   obtain ⟨ad,rfl,had,a0,a1,a2⟩:=cs_at3 (h.up HB) ha
   obtain ⟨p,nm,pk⟩:=a
   have C0:Hid (Calls Tryz.prog 117 #[.agg #[.string p,.string nm,.int .i64 pk]] wr (RetAA wr p nm pk)):=atomOf11_any p nm pk wr
   have HX:Hid (cellsA (l.take (k + 1))=cellsA (l.take k) ++ cellA (p,nm,pk)):=by
    obtain ⟨hx,hx2⟩:=List.getElem?_eq_some_iff.1 ha
    unfold Hid
    rw [List.take_succ_eq_append_getElem hx,hx2,cellsA_snoc]
   have HBS:Hid (w.heap.size≤wr.heap.size):=HB.out.size
   have k0:(0:Int)≤(k:Int):=by omega
   have k1:(k:Int) < (n:Int):=by omega
   clear ha
   go_wp2_with (first | (go_at_call 117;(with_reducible refine (C0.out).mono ?_);rintro e w2 ⟨rfl,hb2⟩) | (at_builtin;go_must (refine wpList_append_own _ rfl (.tmp 11) (.tmp 17) 115 rfl w.heap.size 166 i0 (.agg #[.string ByteArray.empty,.string ByteArray.empty,.int .i64 0]) 3 40 Tryz.underlying115 J0.out Y0.out Y1.out Y2.out rfl (by decide) _ _ _ rfl ((own_up HO.out hb2.hid).alloc _) ⟨w2.heap.size,0,none⟩ 1 1 (cellA (p,nm,pk)) rfl rfl (at_news (at_new0 _ _ _)) (cellA_one _) (by simp only [maxLen];omega) (by omega) (Nat.le_trans HBS.out (Nat.le_trans hb2.size (by simp))) ?_);intro v1 w3 ho1 hg1 hn1;clear hn1) | fail)
   have hg2:(w2.alloc (.cells #[.string p,.string nm,.int .i64 pk] 166)).grownBy w3 (Value.slice R k cp).ownBlock:=hg1
   have HO2:=own_up HO.out hb2.hid
   have HB2:Hid (Below w.heap.size w w2):=HB.out.trans (hb2.mono HBS.out)
   have HB3:Hid (Below w.heap.size w w3):=(HB2.out.alloc HB2.out.size _).grown hg2 (HB2.out.alloc HB2.out.size _).size (fun g' e=>(HO2.lt g' e).1)
   obtain ⟨R2,cp2,rfl,_⟩:=own_slice ho1
   have HO3:=khide ho1
   clear hg1 hg2 ho1 HO2
   go_roundw
   case rel =>
    refine ⟨k + 1,cp2,R2,by omega,by go_num,rfl,(fun e=>by omega),?_,HB3⟩
    rw [HX.out]
    exact HO3
   case measure=>simp [intOf];omega
  ·obtain rfl:k=n:=by omega
   go_wp2
   go_ret
   have h3:=HO.out
   rw [List.take_of_length_le (by rw [← HN.out];exact Nat.le_refl _)] at h3
   refine ⟨R,cp,by rw [← HN.out];rfl,?_,fun e2=>HZ.out (by rw [HN.out,e2];rfl),by rw [← HN.out];exact h3,HB.out⟩
   obtain ⟨A1,c1,e1,h1⟩:=own_slice h3
   injection e1 with e2 _ e3
   subst e2;subst e3
   exact h1
end
end Go.Proofs.YtfflmmbhpchloaaGreatDoor
end
