/- Each theorem here says its own conditions. -/
import Derived.Test.YtfflmmbhpchloaaGreatDoorTg
set_option maxRecDepth 100000
set_option maxHeartbeats 16000000
section
open Go.RowKit
open Go.Proofs.YtfflmmbhpchloaaGreatDoor.V
namespace Go.Proofs.YtfflmmbhpchloaaGreatDoor
section
variable {names ps:List ByteArray}
def AtOk (names:List ByteArray) (a:AL):Prop:=a.2.1 ∈ names∧a.1.size≤20∧a.2.1.size≤20∧0≤a.2.2∧a.2.2 < 16
theorem lp_hit {u:ByteArray}:lpB names u ps=0 ∨ restB u (lpB names u ps) ∈ names:=by
 have h:∀ k,k≤ps.length→lpB names u (ps.take k)=0 ∨ restB u (lpB names u (ps.take k)) ∈ names:=by
  intro k
  induction k with
  | zero=>intro _;exact .inl rfl
  | succ k ih =>
    intro hk
    rw [lpB_take (by omega)]
    split
    ·rename_i hh
     have h1:restB u ps[k].size ∈ names:=by
      unfold hitB at hh
      simp only [Bool.and_eq_true] at hh
      exact hasB_iff.1 hh.2
     by_cases hm:lpB names u (ps.take k)≤ps[k].size
     ·rw [Nat.max_eq_right hm];exact .inr h1
     ·rw [Nat.max_eq_left (by omega)];exact ih (by omega)
    ·exact ih (by omega)
 have:=h ps.length (Nat.le_refl _)
 rwa [List.take_length] at this
theorem size_name {u:ByteArray} (h:(sizeP names ps u).2=true):restB u (sizeP names ps u).1 ∈ names:=by
 unfold sizeP at h ⊢
 by_cases hn:hasB names u=true
 ·rw [if_pos hn]
  have e:restB u 0=u:=by unfold restB;exact ByteArray.extract_zero_size
  rw [e];exact hasB_iff.1 hn
 ·rw [if_neg hn] at h ⊢
  have h1:0 < lpB names u ps:=by simpa using h
  rcases lp_hit (names:=names) (ps:=ps) (u:=u) with e | e
  ·omega
  ·exact e
theorem pow_lt (s:ByteArray):powOf s < 16:=by
 unfold powOf
 cases h:(List.range 16).find? (fun n=>decide (2≤n∧s=pwB n)) with
 | none=>decide
 | some n=>have:=List.mem_range.1 (List.mem_of_find?_eq_some h);simpa using this
theorem atom_ok {l:List ByteArray} (h:(parseA names ps l).ok=true) (hl:∀ u ∈ l,u.size≤20):AtOk names ((parseA names ps l).p,(parseA names ps l).n,((parseA names ps l).k:Int)):=by
 unfold parseA at h ⊢
 cases e:l[(leadP l).2]? with
 | none=>rw [e] at h;cases h
 | some u =>
   rw [e] at h
   have hu:=hl u (List.mem_of_getElem? e)
   dsimp only at h ⊢
   unfold parseU at h ⊢
   by_cases hs:(sizeP names ps u).2=true
   ·rw [if_pos hs]
    have hk:(leadP l).1 < 16:=by
     cases l with
     | nil=>exact (by decide:(1:Nat) < 16)
     | cons s l =>
       by_cases h0:powOf s=0
       ·have e:leadP (s :: l)=(1,0):=if_pos h0
        rw [e];decide
       ·have e:leadP (s :: l)=(powOf s,1):=if_neg h0
        rw [e];exact pow_lt s
    have hle:=sizeP_le names ps u
    refine ⟨size_name hs,?_,?_,?_,?_⟩
    ·show (u.extract 0 _).size≤20
     rw [ByteArray.size_extract];omega
    ·show (u.extract _ u.size).size≤20
     rw [ByteArray.size_extract];omega
    ·show (0:Int)≤(((leadP l).1:Nat):Int);omega
    ·show (((leadP l).1:Nat):Int) < 16;omega
   ·rw [if_neg hs] at h;cases h
theorem atomsF_ok:∀ (f:Nat) {l:List ByteArray} {r:List AL},(∀ u ∈ l,u.size≤20)→atomsF names ps f l=some r → ∀ a ∈ r,AtOk names a
 | f,[],r,_,h=>by
   cases f <;> (injection h with h;subst h;intro a ha;cases ha)
 | 0,u :: l,r,_,h=>by cases h
 | f + 1,u :: l,r,hl,h=>by
   unfold atomsF at h
   split at h
   ·rename_i hok
    cases hh:atomsF names ps f ((u :: l).drop (parseA names ps (u :: l)).t) with
    | none=>rw [hh] at h;cases h
    | some r' =>
      rw [hh] at h
      injection h with h
      subst h
      intro a ha
      rcases List.mem_cons.1 ha with rfl | ha
      ·exact atom_ok hok hl
      ·exact atomsF_ok f (fun u hu=>hl u (List.mem_of_mem_drop hu)) hh a ha
   ·cases h
theorem cut_mem {α:Type} [DecidableEq α] {a:α}:∀ {l:List α} {c:List α},c ∈ cutBy a l → ∀ x ∈ c,x ∈ l
 | [],c,h,x,hx=>by
   rw [cutBy_nil,List.mem_singleton] at h
   subst h;cases hx
 | y :: l,c,h,x,hx=>by
   by_cases e:y=a
   ·subst e
    rw [cutBy_hit] at h
    rcases List.mem_cons.1 h with rfl | h
    ·cases hx
    ·exact List.mem_cons_of_mem _ (cut_mem h x hx)
   ·obtain ⟨p,qs,hp⟩:=cutBy_form (a:=a) l
    rw [cutBy_miss e hp] at h
    rcases List.mem_cons.1 h with rfl | h
    ·rcases List.mem_cons.1 hx with rfl | hx
     ·exact List.mem_cons_self
     ·exact List.mem_cons_of_mem _ (cut_mem (c:=p) (by rw [hp];exact List.mem_cons_self) x hx)
    ·exact List.mem_cons_of_mem _ (cut_mem (c:=c) (by rw [hp];exact List.mem_cons_of_mem _ h) x hx)
theorem head_mem (d:List ByteArray):∀ x ∈ (headD d).2,x ∈ d:=by
 unfold headD
 cases d with
 | nil=>intro x hx;cases hx
 | cons y d =>
   dsimp only
   split
   ·intro x hx;exact List.mem_cons_of_mem _ hx
   ·intro x hx;exact hx
theorem partC_atoms {css:List (List ByteArray)} {p:PL} (hc:∀ c ∈ css,∀ u ∈ c,u.size≤20) (h:partC names ps css=some p):∀ a ∈ p.1 ++ p.2.1,AtOk names a:=by
 match css,h with
 | [],h=>cases h
 | _ :: _ :: _ :: _,h=>cases h
 | [a],h =>
   rw [partC_sole] at h
   cases hr:atomsL names ps a with
   | none=>rw [hr] at h;cases h
   | some r =>
     rw [hr] at h
     simp only [Option.bind_some] at h
     by_cases h1:0 < r.length∧r.length≤8
     ·rw [if_pos h1] at h
      injection h with h
      subst h
      intro x hx
      rw [List.append_nil] at hx
      exact atomsF_ok _ (hc a (by simp)) hr x hx
     ·rw [if_neg h1] at h;cases h
 | [a,d],h =>
   rw [partC_two] at h
   by_cases h0:d=[]
   ·rw [if_pos h0] at h;cases h
   ·rw [if_neg h0] at h
    cases hr:atomsL names ps a with
    | none=>rw [hr] at h;cases h
    | some r =>
      cases hs:atomsL names ps (headD d).2 with
      | none=>rw [hr,hs] at h;cases h
      | some s =>
        rw [hr,hs] at h
        simp only [Option.bind_some] at h
        by_cases h1:r.length + s.length≤8
        ·rw [if_pos h1] at h
         injection h with h
         subst h
         intro x hx
         rcases List.mem_append.1 hx with hx | hx
         ·exact atomsF_ok _ (hc a (by simp)) hr x hx
         ·exact atomsF_ok _ (fun u hu=>hc d (by simp) u (head_mem d u hu)) hs x hx
        ·rw [if_neg h1] at h;cases h
theorem partsL_at {css:List (List ByteArray)} {r:List PL} (h:partsL names ps css=some r):∀ p ∈ r,∃ c ∈ css,partD names ps c=some p:=by
 induction css generalizing r with
 | nil=>injection h with h;subst h;intro p hp;cases hp
 | cons b css ih =>
   unfold partsL at h
   cases hb:partD names ps b with
   | none=>rw [hb] at h;cases h
   | some q =>
     cases ht:partsL names ps css with
     | none=>rw [hb,ht] at h;cases h
     | some r' =>
       rw [hb,ht] at h
       injection h with h
       rw [← h]
       intro p hp
       rcases List.mem_cons.1 hp with rfl | hp
       ·exact ⟨b,List.mem_cons_self,hb⟩
       ·obtain ⟨c,h1,h2⟩:=ih ht p hp
        exact ⟨c,List.mem_cons_of_mem _ h1,h2⟩
theorem unitD_atoms {s:ByteArray} {r:List PL} (h:unitD names ps s = .ok r):∀ p ∈ r,(okP p∧p.1.length + p.2.1.length≤8) ∧ ∀ a ∈ p.1 ++ p.2.1,AtOk names a:=by
 unfold unitD at h
 split at h
 ·cases h
 ·split at h
  ·cases h
  ·rename_i hg
   split at h
   ·cases h
   ·cases hp:partsL names ps (cutBy andB (pcs s)) with
    | none=>rw [hp] at h;cases h
    | some r' =>
      rw [hp] at h
      injection h with h
      subst h
      have hg':goodAll (pcs s)=true:=by simpa using hg
      intro p hm
      refine ⟨partsL_ok hp p hm,?_⟩
      obtain ⟨c,h1,h2⟩:=partsL_at hp p hm
      exact partC_atoms (fun d hd u hu=>goodAll_size hg' u (cut_mem h1 u (cut_mem hd u hu))) h2
structure PtOk (names:List ByteArray) (p:PL):Prop where
 num:okP p
 len:p.1.length + p.2.1.length≤8
 at_:∀ a ∈ p.1 ++ p.2.1,AtOk names a
theorem part_ok {T:Tb} {s:ByteArray} {p:PL} (h:T.part s = .ok p):PtOk T.names p:=by
 unfold Tb.part at h
 cases hu:unitD T.names T.prefs s with
 | error v=>rw [hu] at h;cases h
 | ok r =>
   rw [hu] at h
   match r,h,hu with
   | [q],h,hu =>
     injection h with h
     subst h
     obtain ⟨⟨h1,h2⟩,h3⟩:=unitD_atoms hu q (by simp)
     exact ⟨h1,h2,h3⟩
   | [],h,_=>cases h
   | _ :: _ :: _,h,_=>cases h
theorem nu_pos {p:PL} (h:okP p):0 < nuOf p.2.2:=by
 have hb:=numW_back h
 rcases Nat.eq_zero_or_pos (nuOf p.2.2) with e | e
 ·rw [e] at hb
  have h1:numW (nuT 0).data.toList=true:=by rw [hb];exact h
  exact absurd h1 (by decide +kernel)
 ·exact e
theorem nu_lt {p:PL} (h:okP p):nuOf p.2.2 < W32 ^ 11:=Nat.lt_of_lt_of_le (numW_lt h) (by decide)
theorem q1_pt {W:World} {A1 A2 A3:Option Addr} {n1 c1 n2 c2 n3 c3:Nat} {p:PL} (h:Q1 W (.slice A1 n1 c1) (.slice A2 n2 c2) (.slice A3 n3 c3) (ofP p)) (hp:PtOk names p) :
 PtR W A1 n1 A2 n2 p.1 p.2.1∧Nm W A3 n3 c3 (nuOf p.2.2):=by
 obtain ⟨B1,d1,B2,d2,B3,d3,e1,e2,e3,b1,b2,b3,b4,r1,r2,r3,r4⟩:=h.out
 injection e1 with e1 f1 g1;injection e2 with e2 f2 g2;injection e3 with e3 f3 g3
 subst e1;subst e2;subst e3;subst g1;subst g2;subst g3
 refine ⟨⟨r1,r2,f1,f2,fun a ha=>?_,?_⟩,?_⟩
 ·obtain ⟨_,h1,h2,_⟩:=hp.at_ a ha
  omega
 ·have h1:(ofP p).1=p.1:=rfl
  have h2:(ofP p).2.1=p.2.1:=rfl
  have:=hp.len
  rw [h1] at f1;rw [h2] at f2
  omega
 ·refine ⟨digs W32 (nuOf p.2.2),f3,by rw [f3];exact b3,by rw [f3];exact b4,r3,r4,val_digs (show 2≤W32 by decide) _⟩
end
section
variable {base p g y:Nat} {W W' w6:World} {x:TPl} {T T1 T2:Tb} {s id:ByteArray}
theorem Stp.of_up (h:LdM base W g p y x T) (hb:Hid (Below W.heap.size W W')):Stp base W g p y x T W' :=
 ⟨x,h.up hb,(Turn.of hb).mono (fun k hk=>by cases hk),KU.below hb,fun k hk=>.inl hk⟩
theorem alias_end (h:LdM base W g p y x T) (T6:Turn [x.b3] W w6) (K6:KU W w6) (A6:MapV w6 x.b3 ((T.als ++ [(s,id)]).map fun a=>(a.1,Value.agg #[.string a.2]))) :
 Stp base W g p y x { T with als:=T.als ++ [(s,id)] } w6:=by
 have ap:=h.apart
 have m3:=ap.mg x.b3 (by simp)
 have hnd:=h.tab.nd
 have hyn:=h.nd
 simp only [List.nodup_cons,List.mem_cons,List.mem_nil_iff,or_false,not_or,List.not_mem_nil,List.nodup_nil,not_false_eq_true,and_true] at hnd hyn
 have n1:∀ k,k ≠ x.b3→k ∉ [x.b3]:=fun k hk hm=>hk (List.mem_singleton.1 hm)
 have nr:∀ k,k ∈ x.rows→k ∉ [x.b3]:=fun k hk hm=>m3.2.2.2 (List.mem_singleton.1 hm ▸ hk)
 obtain ⟨l1,m1,r1⟩:=h.tab.ents
 obtain ⟨l2,m2,r2⟩:=h.tab.vals
 obtain ⟨l4,m4,r4⟩:=h.facs
 refine ⟨x,⟨(T6.block g h.lt (n1 _ m3.1.symm)).trans h.blk,h.hg,h.hy,⟨(T6.block p h.tab.lt (n1 _ m3.2.1.symm)).trans h.tab.blk,h.tab.hp,h.tab.hb,
  h.tab.row1.turn T6 (fun k hk=>nr k (TPl.row1 hk)),h.tab.row2.turn T6 (fun k hk=>nr k (TPl.row2 hk)),⟨l1,m1.turn T6 (n1 _ (fun e=>hnd.1.2.1 e)),r1.mono fun s e v hv=>hv.ku K6⟩,
  ⟨l2,m2.turn T6 (n1 _ (fun e=>hnd.2.1.1 e)),r2.mono fun s e v hv=>hv.ku K6⟩,A6,h.tab.qs.turn T6 (n1 _ m3.2.2.1.symm) (n1 _ (fun e=>hnd.2.2 e.symm)) (fun k hk=>nr k (TPl.row4 hk)),h.tab.nd,h.tab.rd⟩,
  ⟨l4,m4.turn T6 (n1 _ hyn.2.2.1),r4.mono fun s e v hv=>hv.ku K6⟩,h.nd⟩,T6.mono (fun k hk=>by rw [List.mem_singleton.1 hk];unfold TPl.all;simp),K6,fun k hk=>.inl hk⟩
theorem count_end {n:Nat} (h:LdM base W g p y x T) (T6:Turn [g] W w6) (K6:KU W w6) (B6:w6.heap[g]? = some (.cells #[.pointer (some ⟨p,0,none⟩),.int .i64 (n:Int),.map (some y)] 124 (0,0))) :
 Stp base W g p y x { T with bases:=n } w6:=by
 have ap:=h.apart
 have n1:∀ k,k ≠ g→k ∉ [g]:=fun k hk hm=>hk (List.mem_singleton.1 hm)
 have nr:∀ k,k ∈ x.rows→k ∉ [g]:=fun k hk hm=>ap.rg.1 (List.mem_singleton.1 hm ▸ hk)
 have nm:∀ k,k ∈ [y,x.b1,x.b2,x.b3,x.b4]→k ∉ [g]:=fun k hk=>n1 k (ap.mg k hk).1
 obtain ⟨l1,m1,r1⟩:=h.tab.ents
 obtain ⟨l2,m2,r2⟩:=h.tab.vals
 obtain ⟨l4,m4,r4⟩:=h.facs
 exact ⟨x,⟨B6,h.hg,h.hy,⟨(T6.block p h.tab.lt (n1 _ ap.gp.symm)).trans h.tab.blk,h.tab.hp,h.tab.hb,
  h.tab.row1.turn T6 (fun k hk=>nr k (TPl.row1 hk)),h.tab.row2.turn T6 (fun k hk=>nr k (TPl.row2 hk)),⟨l1,m1.turn T6 (nm _ (by simp)),r1.mono fun s e v hv=>hv.ku K6⟩,
  ⟨l2,m2.turn T6 (nm _ (by simp)),r2.mono fun s e v hv=>hv.ku K6⟩,h.tab.als.turn T6 (nm _ (by simp)),h.tab.qs.turn T6 (n1 _ ap.g2.symm) (nm _ (by simp)) (fun k hk=>nr k (TPl.row4 hk)),h.tab.nd,h.tab.rd⟩,
  ⟨l4,m4.turn T6 (nm _ (by simp)),r4.mono fun s e v hv=>hv.ku K6⟩,h.nd⟩,T6.mono (fun k hk=>by rw [List.mem_singleton.1 hk];unfold TPl.all;simp),K6,fun k hk=>.inl hk⟩
theorem quan_end {v':Value} {qv:List V8} {qn:List ByteArray} (h:LdM base W g p y x T) (T6:Turn (x.p2 :: x.b4 :: x.v4.ownBlock.toList) W w6) (K6:KU W w6) (Q6:QnM base w6 x.p2 x.b4 v' qv qn)
 (hv':v'.ownBlock=x.v4.ownBlock ∨ ∃ g,v'.ownBlock=some g∧W.heap.size≤g):Stp base W g p y x { T with qv:=qv,qn:=qn } w6:=by
 have ap:=h.apart
 have m4':=ap.mg x.b4 (by simp)
 have hnd:=h.tab.nd
 have hyn:=h.nd
 have hrd:=h.tab.rd
 unfold TPl.rows at hrd
 simp only [List.nodup_cons,List.mem_cons,List.mem_nil_iff,or_false,not_or,List.not_mem_nil,List.nodup_nil,not_false_eq_true,and_true] at hnd hyn
 have n1:∀ k,k ≠ x.p2→k ≠ x.b4→x.v4.ownBlock ≠ some k→k ∉ x.p2 :: x.b4 :: x.v4.ownBlock.toList:=fun k h1 h2 h3 hm=>by
  rcases List.mem_cons.1 hm with hm | hm
  ·exact h1 hm
  ·rcases List.mem_cons.1 hm with hm | hm
   ·exact h2 hm
   ·exact h3 (Option.mem_toList.1 hm)
 have nm:∀ k,k ∈ [y,x.b1,x.b2,x.b3,x.b4]→k ≠ x.b4→k ∉ x.p2 :: x.b4 :: x.v4.ownBlock.toList:=fun k hk h1 =>
  n1 k (ap.mg k hk).2.2.1 h1 (fun e=>(ap.mg k hk).2.2.2 (TPl.row4 e))
 have nr:∀ k,k ∈ x.rows→x.v4.ownBlock ≠ some k→k ∉ x.p2 :: x.b4 :: x.v4.ownBlock.toList:=fun k hk h1 =>
  n1 k (fun e=>ap.rg.2.2 (e ▸ hk)) (fun e=>m4'.2.2.2 (e ▸ hk)) h1
 have d14:∀ k,x.v1.ownBlock=some k→x.v4.ownBlock ≠ some k:=fun k h2 h1=>by
  rw [h1,h2] at hrd;simp at hrd
 have d24:∀ k,x.v2.ownBlock=some k→x.v4.ownBlock ≠ some k:=fun k h2 h1=>by
  rw [h1,h2] at hrd
  have:=(List.nodup_append.1 hrd).2.2 k (by simp) k (by simp)
  exact this rfl
 obtain ⟨l1,m1,r1⟩:=h.tab.ents
 obtain ⟨l2,m2,r2⟩:=h.tab.vals
 obtain ⟨l4,m4,r4⟩:=h.facs
 refine ⟨{ x with v4:=v' },⟨(T6.block g h.lt (n1 _ ap.g2 m4'.1.symm (fun e=>ap.rg.1 (TPl.row4 e)))).trans h.blk,h.hg,h.hy,⟨(T6.block p h.tab.lt (n1 _ ap.p2 m4'.2.1.symm (fun e=>ap.rg.2.1 (TPl.row4 e)))).trans h.tab.blk,h.tab.hp,h.tab.hb,
  h.tab.row1.turn T6 (fun k hk=>nr k (TPl.row1 hk) (d14 k hk)),h.tab.row2.turn T6 (fun k hk=>nr k (TPl.row2 hk) (d24 k hk)),⟨l1,m1.turn T6 (nm _ (by simp) hnd.1.2.2),r1.mono fun s e v hv=>hv.ku K6⟩,
  ⟨l2,m2.turn T6 (nm _ (by simp) hnd.2.1.2),r2.mono fun s e v hv=>hv.ku K6⟩,h.tab.als.turn T6 (nm _ (by simp) hnd.2.2),Q6,h.tab.nd,?_⟩,
  ⟨l4,m4.turn T6 (nm _ (by simp) hyn.2.2.2),r4.mono fun s e v hv=>hv.ku K6⟩,h.nd⟩,T6.mono ?_,K6,?_⟩
 ·unfold TPl.rows
  dsimp only
  rcases hv' with e1 | ⟨k,e1,hk⟩
  ·rw [e1];exact hrd
  ·rw [e1]
   refine List.nodup_append.2 ⟨(List.nodup_append.1 hrd).1,by simp,?_⟩
   intro a ha b hb e
   have hbk:k=b:=Option.some.inj (Option.mem_toList.1 hb)
   have h4:a ∈ x.rows:=by unfold TPl.rows;exact List.mem_append_left _ ha
   have h5:=(h.all_lt a (by unfold TPl.all;simp [h4])).2
   omega
 ·intro k hk
  unfold TPl.all
  rcases List.mem_cons.1 hk with hk | hk
  ·simp [hk]
  ·rcases List.mem_cons.1 hk with hk | hk
   ·simp [hk]
   ·have:=TPl.row4 (Option.mem_toList.1 hk);simp [this]
 ·intro k hk
  unfold TPl.all at hk ⊢
  simp only [List.mem_cons] at hk ⊢
  have key:k ∈ TPl.rows { x with v4:=v' }→k ∈ x.rows ∨ W.heap.size≤k:=fun hk=>by
   unfold TPl.rows at hk ⊢
   dsimp only at hk
   rcases List.mem_append.1 hk with hk | hk
   ·exact .inl (List.mem_append_left _ hk)
   ·rcases hv' with e1 | ⟨j,e1,hj⟩
    ·rw [e1] at hk;exact .inl (List.mem_append_right _ hk)
    ·rw [e1] at hk
     have:j=k:=Option.some.inj (Option.mem_toList.1 hk)
     exact .inr (this ▸ hj)
  rcases hk with hk | hk | hk | hk | hk | hk | hk | hk | hk
  ·simp [hk]
  ·simp [hk]
  ·simp [hk]
  ·simp [hk]
  ·simp [hk]
  ·simp [hk]
  ·simp [hk]
  ·simp [hk]
  ·rcases key hk with h1 | h1
   ·simp [h1]
   ·exact .inr h1
theorem pref_end {q:Rat} {v':Value} (h:LdM base W g p y x T)
 (T6:Turn ((p :: x.v2.ownBlock.toList) ++ [x.b2]) W w6) (K6:KU W w6)
 (B6:w6.heap[p]? = some (.cells #[x.v1,v',.map (some x.b1),.map (some x.b2),.map (some x.b3),.pointer (some ⟨x.p2,0,none⟩)] 89 (0,0)))
 (R6:Row w6 base v' (T.prefs ++ [s])) (hv':v'.ownBlock=x.v2.ownBlock ∨ ∃ g,v'.ownBlock=some g∧W.heap.size≤g)
 (V6:∃ l,MapV w6 x.b2 l∧Rel (fun _ r v=>QV w6 r 4 v) l (T.vals ++ [(s,q)])):Stp base W g p y x { T with vals:=T.vals ++ [(s,q)] } w6:=by
 have ap:=h.apart
 have hnd:=h.tab.nd
 have hrd:=h.tab.rd
 have hyn:=h.nd
 simp only [List.nodup_cons,List.mem_cons,List.mem_nil_iff,or_false,not_or,List.not_mem_nil,List.nodup_nil,not_false_eq_true,and_true] at hnd hyn
 unfold TPl.rows at hrd
 have hm:∀ k,k ≠ p→k ≠ x.b2→x.v2.ownBlock ≠ some k→k ∉ (p :: x.v2.ownBlock.toList) ++ [x.b2]:=by
  intro k h1 h2 h4 h5
  simp only [List.mem_append,List.mem_cons,List.mem_nil_iff,or_false,List.not_mem_nil,Option.mem_toList] at h5
  rcases h5 with h5 | h5
  ·rcases h5 with h5 | h5
   ·exact h1 h5
   ·exact h4 h5
  ·exact h2 h5
 have hrow:∀ k,k ∈ x.rows→x.v2.ownBlock ≠ some k→k ∉ (p :: x.v2.ownBlock.toList) ++ [x.b2]:=fun k hk h1 =>
  hm k (fun e=>ap.rg.2.1 (e ▸ hk)) (fun e=>(ap.mg x.b2 (by simp)).2.2.2 (e ▸ hk)) h1
 have hmap:∀ k,k ∈ [y,x.b1,x.b2,x.b3,x.b4]→k ≠ x.b2→k ∉ (p :: x.v2.ownBlock.toList) ++ [x.b2]:=fun k hk h1 =>
  hm k (ap.mg k hk).2.1 h1 (fun e=>(ap.mg k hk).2.2.2 (TPl.row2 e))
 have d12:∀ k,x.v1.ownBlock=some k→x.v2.ownBlock ≠ some k:=fun k h2 h1=>by
  rw [h1,h2] at hrd;simp at hrd
 have d24:∀ k,x.v4.ownBlock=some k→x.v2.ownBlock ≠ some k:=fun k h2 h1=>by
  rw [h1,h2] at hrd
  have:=(List.nodup_append.1 hrd).2.2 k (by simp) k (by simp)
  exact this rfl
 obtain ⟨l1,m1,r1⟩:=h.tab.ents
 obtain ⟨l4,m4,r4⟩:=h.facs
 refine ⟨{ x with v2:=v' },⟨(T6.block g h.lt (hm g ap.gp (ap.mg x.b2 (by simp)).1.symm (fun e=>ap.rg.1 (TPl.row2 e)))).trans h.blk,h.hg,h.hy,
  ⟨B6,h.tab.hp,h.tab.hb,h.tab.row1.turn T6 (fun k hk=>hrow k (TPl.row1 hk) (d12 k hk)),?_,⟨l1,m1.turn T6 (hmap _ (by simp) hnd.1.1),r1.mono fun s e v hv=>hv.ku K6⟩,V6,
    h.tab.als.turn T6 (hmap _ (by simp) (fun e=>hnd.2.1.1 e.symm)),
    h.tab.qs.turn T6 (hm _ ap.p2.symm (ap.mg x.b2 (by simp)).2.2.1.symm (fun e=>ap.rg.2.2 (TPl.row2 e))) (hmap _ (by simp) (fun e=>hnd.2.1.2 e.symm)) (fun k hk=>hrow k (TPl.row4 hk) (d24 k hk)),h.tab.nd,?_⟩,
    ⟨l4,m4.turn T6 (hmap _ (by simp) hyn.2.1),r4.mono fun s e v hv=>hv.ku K6⟩,h.nd⟩,T6.mono ?_,K6,?_⟩
 ·have e1:Tb.prefs { T with vals:=T.vals ++ [(s,q)] }=T.prefs ++ [s]:=by simp [Tb.prefs]
  rw [e1];exact R6
 ·unfold TPl.rows
  rcases hv' with e1 | ⟨k,e1,hk⟩
  ·dsimp only;rw [e1];exact hrd
  ·dsimp only
   rw [e1]
   have hno:k ∉ x.rows:=fun hm=>by
    have h5:=(h.all_lt k (by unfold TPl.all;simp [hm])).2
    omega
   unfold TPl.rows at hno
   simp only [List.mem_append,not_or] at hno
   rw [List.append_assoc] at hrd ⊢
   obtain ⟨a1,a2,a3⟩:=List.nodup_append.1 hrd
   obtain ⟨b1,b2,b3⟩:=List.nodup_append.1 a2
   refine List.nodup_append.2 ⟨a1,List.nodup_cons.2 ⟨hno.2,b2⟩,?_⟩
   intro a ha b hb e
   rcases List.mem_cons.1 hb with hb | hb
   ·exact hno.1.1 (by rw [← hb,← e];exact ha)
   ·exact a3 a ha b (List.mem_append_right _ hb) e
 ·intro k hk
  unfold TPl.all
  simp only [List.mem_append,List.mem_cons,List.mem_nil_iff,or_false,List.not_mem_nil,Option.mem_toList] at hk ⊢
  rcases hk with hk | hk
  ·rcases hk with hk | hk
   ·exact .inl hk
   ·have:=TPl.row2 hk;simp [this]
  ·simp [hk]
 ·intro k hk
  unfold TPl.all at hk ⊢
  simp only [List.mem_cons] at hk ⊢
  have key:k ∈ TPl.rows { x with v2:=v' }→k ∈ x.rows ∨ W.heap.size≤k:=fun hk=>by
   unfold TPl.rows at hk ⊢
   dsimp only at hk
   rcases List.mem_append.1 hk with hk | hk
   ·rcases List.mem_append.1 hk with hk | hk
    ·exact .inl (List.mem_append_left _ (List.mem_append_left _ hk))
    ·rcases hv' with e1 | ⟨j,e1,hj⟩
     ·rw [e1] at hk;exact .inl (List.mem_append_left _ (List.mem_append_right _ hk))
     ·rw [e1] at hk
      have:j=k:=Option.some.inj (Option.mem_toList.1 hk)
      exact .inr (this ▸ hj)
   ·exact .inl (List.mem_append_right _ hk)
  rcases hk with hk | hk | hk | hk | hk | hk | hk | hk | hk
  ·simp [hk]
  ·simp [hk]
  ·simp [hk]
  ·simp [hk]
  ·simp [hk]
  ·simp [hk]
  ·simp [hk]
  ·simp [hk]
  ·rcases key hk with h1 | h1
   ·simp [h1]
   ·exact .inr h1
theorem long_bd {r:Rat} (h:longB r=false):Bd r 11:=by
 unfold longB at h
 simp only [Bool.or_eq_false_iff,decide_eq_false_iff_not,Nat.not_le] at h
 have e:10 ^ 100 < W32 ^ 11:=by decide +kernel
 exact ⟨Nat.lt_trans h.1 e,Nat.lt_trans h.2 e⟩
end
section
variable {n N:Nat} {T T':Tb} {s:ByteArray} {e:Ent} {p:PL}
theorem known_ent {a:AL} (h:AtOk T.names a):∃ m,lookL T.ents a.2.1=some m:=by
 have h1:hasB (T.ents.map (·.1)) a.2.1=true:=hasB_iff.2 h.1
 rw [← lookL_has] at h1
 exact Option.isSome_iff_exists.1 h1
theorem steps_pos (ok:OkT N T) {b:Nat}:∀ (l:List (AL × Int)) (q:Rat),(∀ z ∈ l,(∃ m,lookL T.ents z.1.2.1=some m)∧(z.2=1 ∨ z.2 = -1))→0 < q→0 < l.foldl (T.stepF b) q
 | [],q,_,h=>h
 | z :: l,q,hl,h=>by
   rw [List.foldl_cons]
   refine steps_pos ok l _ (fun z hz=>hl z (List.mem_cons_of_mem _ hz)) ?_
   unfold Tb.stepF
   split
   ·obtain ⟨⟨m,hm⟩,hs⟩:=hl z List.mem_cons_self
    exact Rat.mul_pos h (turned_pos ok hm hs).1
   ·exact h
theorem factor_pos (ok:OkT N T) (hp:PtOk T.names p):0 < T.factor p:=by
 have hl:∀ z ∈ sgA (p.1,p.2.1),(∃ m,lookL T.ents z.1.2.1=some m)∧(z.2=1 ∨ z.2 = -1):=fun z hz=>by
  obtain ⟨k,hk⟩:=List.getElem?_of_mem hz
  exact ⟨known_ent (hp.at_ _ (sg_mem hk)),sg_sign hk⟩
 have hb:∀ (bs:List Nat) (q:Rat),0 < q→0 < bs.foldl (T.bitF (sgA (p.1,p.2.1))) q:=by
  intro bs
  induction bs with
  | nil=>intro q h;exact h
  | cons b bs ih =>
    intro q h
    rw [List.foldl_cons]
    exact ih _ (steps_pos ok _ _ hl (Rat.pow_pos h))
 unfold Tb.factor
 exact Rat.mul_pos (hb _ _ (by decide)) (mk_pos (nu_pos hp.num))
theorem okT_define (h:OkT n T) (hp:PtOk T.names p) (he:0 < e.fac∧Bd e.fac 101∧Bd e.off 101) (hr:T.define s e p = .ok T'):OkT (n + 1) T':=by
 unfold Tb.define at hr
 split at hr
 ·cases hr
 ·cases hv:T.vec (p.1,p.2.1) with
  | none=>rw [hv] at hr;cases hr
  | some v =>
    rw [hv] at hr
    dsimp only at hr
    split at hr
    ·cases hr
    ·rename_i hlong
     injection hr with hr
     subst hr
     exact ⟨ent_more h.ent ⟨Rat.mul_pos he.1 (factor_pos h hp),long_bd (by simpa using hlong),(vec_ok hv).1,he.2.1,he.2.2⟩,h.val,h.b8,by simpa using h.l1,Nat.le_succ_of_le h.l2,Nat.le_succ_of_le h.l3,Nat.le_succ_of_le h.l4⟩
end
def StR (base:Nat) (W:World) (g p y:Nat) (x:TPl) (r:Except Int Tb) (e:Ending) (w':World):Prop:=match r with
 | .error v=>e = .returned (.int .i64 v)∧Bel W w'
 | .ok T'=>e = .returned (.int .i64 0)∧Stp base W g p y x T' w'
section
variable {base p g y N:Nat} {W W':World} {x:TPl} {T:Tb} {s id:ByteArray}
theorem fresh_codes:T.fresh s=0 ∨ T.fresh s=2 ∨ T.fresh s=10:=by
 unfold Tb.fresh
 split
 ·exact .inr (.inl rfl)
 ·split
  ·exact .inr (.inr rfl)
  ·exact .inl rfl
theorem fresh_none (h:T.fresh s=0):lookL T.ents s=none∧lookL T.als s=none:=by
 unfold Tb.fresh at h
 split at h
 ·cases h
 ·split at h
  ·cases h
  ·rename_i hn
   rw [not_or] at hn
   constructor
   ·cases hl:lookL T.ents s with
    | none=>rfl
    | some e=>rw [hl] at hn;exact absurd rfl hn.1
   ·cases hl:lookL T.als s with
    | none=>rfl
    | some e=>rw [hl] at hn;exact absurd rfl hn.2
theorem part_codes {v:Int} (h:T.part s = .error v):v=11 ∨ v=2:=by
 unfold Tb.part at h
 cases hu:unitD T.names T.prefs s with
 | error v' =>
   rw [hu] at h
   injection h with h
   exact h ▸ unitD_codes hu
 | ok r =>
   rw [hu] at h
   match r,h with
   | [q],h=>cases h
   | [],h=>injection h with h;exact .inr h.symm
   | _ :: _ :: _,h=>injection h with h;exact .inr h.symm
theorem taddAlias_h (h:LdM base W g p y x T) (hbase:base≤W.heap.size) (hs:s.size≤2000000) (hl1:T.ents.length≤900000) (hl2:T.vals.length≤900000) (hl3:T.als.length≤900000) :
 Calls Tryz.prog 89 #[.pointer (some ⟨g,0,none⟩),.string s,.string id] W (StR base W g p y x (T.addAlias s id)):=by
 have CF:Hid (∀ W',Bel W W'→Calls Tryz.prog 118 #[.pointer (some ⟨g,0,none⟩),.string s] W' (IntB W' (T.fresh s))):=fun W' hb=>tcheck_h (h.up hb.hid) hs
 have CP:Hid (∀ W',Bel W W'→Calls Tryz.prog 130 #[.pointer (some ⟨g,0,none⟩),.string id] W' (PaR W' (T.part id))):=fun W' hb=>tpart_h (h.up hb.hid) (by omega) (by omega)
 have HL:=khide h
 have HS:=khide hs
 have HL3:=khide hl3
 have HB:=Bel.refl W
 have hfc:=fresh_codes (T:=T) (s:=s)
 have HFN:Hid (T.fresh s=0→lookL T.als s=none):=fun h0=>(fresh_none h0).2
 unfold Tb.addAlias
 obtain ⟨f,hf⟩:∃ f,T.fresh s=f:=⟨_,rfl⟩
 rw [hf] at CF hfc HFN ⊢
 clear hf h hs hl1 hl2 hl3 hbase
 rcases hfc with rfl | rfl | rfl
 ·rw [if_neg (by decide)]
  cases hp:T.part id with
  | error v =>
    rw [hp] at CP
    have hv:=part_codes hp
    clear hp HFN HL HS HL3
    have CP2:Hid (∀ W',Bel W W'→Calls Tryz.prog 130 #[.pointer (some ⟨g,0,none⟩),.string id] W' fun e w'=>e = .returned (.tuple #[.agg #[.slice none 0 0,.slice none 0 0,.slice none 0 0],.int .i64 v])∧Bel W' w'):=fun W' hb=>CP.out W' hb
    clear CP
    rcases hv with rfl | rfl
    all_goals
     go_enter Tryz.func89,Tryz.ntmps89
     go_wp2_with (first
      | (go_at_call 118;(with_reducible refine (CF.out _ HB).mono ?_);rintro e w1 ⟨rfl,hb1⟩)
      | (go_at_call 130;(with_reducible refine (CP2.out _ (hb1.al _)).mono ?_);rintro e w2 ⟨rfl,hb2⟩)
      | (go_at_call 130;(with_reducible refine (CP2.out _ hb1).mono ?_);rintro e w2 ⟨rfl,hb2⟩)
      | fail)
     go_ret
     refine ⟨rfl,?_⟩
     first | exact (hb1.up hb2.hid).al _ | exact (hb1.al _).up hb2.hid
  | ok q =>
    rw [hp] at CP
    clear hp
    have CP2:Hid (∀ W',Bel W W'→Calls Tryz.prog 130 #[.pointer (some ⟨g,0,none⟩),.string id] W' fun e w'=>∃ A1 n1 c1 A2 n2 c2 A3 n3 c3,e = .returned (.tuple #[.agg #[.slice A1 n1 c1,.slice A2 n2 c2,.slice A3 n3 c3],.int .i64 0])∧Bel W' w'):=fun W' hb=>(CP.out W' hb).mono (by
     rintro e w' ⟨A1,n1,c1,A2,n2,c2,A3,n3,c3,h1,_,h2⟩
     exact ⟨A1,n1,c1,A2,n2,c2,A3,n3,c3,h1,h2⟩)
    clear CP
    have HN:Hid (lookL T.als s=none):=HFN.out rfl
    clear HFN
    go_enter Tryz.func89,Tryz.ntmps89
    go_upto_region 7 with (first
     | (go_at_call 118;(with_reducible refine (CF.out _ HB).mono ?_);rintro e w1 ⟨rfl,hb1⟩)
     | (go_at_call 130;(with_reducible refine (CP2.out _ (hb1.al _)).mono ?_);rintro e w2 ⟨A1,n1,c1,A2,n2,c2,A3,n3,c3,rfl,hb2⟩)
     | (go_at_call 130;(with_reducible refine (CP2.out _ hb1).mono ?_);rintro e w2 ⟨A1,n1,c1,A2,n2,c2,A3,n3,c3,rfl,hb2⟩)
     | fail)
    refine kwp_named ?_
    intro w3 hw3
    have HB3:Hid (Below W.heap.size W w3):=Bel.hid (by rw [hw3];exact (hb1.up hb2.hid).al _)
    clear hw3 hb1 hb2
    have HL4:=khide (HL.out.up HB3)
    have g0:=HL4.out.c0;have gl:=HL4.out.lt
    have t4:=HL4.out.tab.c4;have tl:=HL4.out.tab.lt
    have hd:MapV w3 x.b3 (T.als.map fun a=>(a.1,Value.agg #[.string a.2])):=HL4.out.tab.als
    have hno:lookL (T.als.map fun a=>(a.1,Value.agg #[.string a.2])) s=none:=by
     rw [lookL_map (l:=T.als) (fun a=>Value.agg #[.string a]),HN.out];rfl
    obtain ⟨w4,hr4,hm4,hg4⟩:=hd.put (v:=.agg #[.string id]) Tryz.underlying86 HS.out (by have h1:=HL3.out;simp;omega) hno
    have HD:=khide hd
    clear hd hno
    go_wp2_with fail
    have T4:Hid (Turn [x.b3] W w4):=((Turn.of HB3).trans (Turn.grown hg4)).mono (by simp)
    have K4:Hid (KU W w4):=(KU.below HB3).trans (KU.map hg4 HD.out)
    have HM4:=khide hm4
    clear g0 gl t4 tl hr4 hm4 hg4
    go_ret
    refine ⟨rfl,alias_end HL.out T4.out K4.out ?_⟩
    have e1:((T.als ++ [(s,id)]).map fun a=>(a.1,Value.agg #[.string a.2]))=(T.als.map fun a=>(a.1,Value.agg #[.string a.2])) ++ [(s,Value.agg #[.string id])]:=by simp
    rw [e1];exact HM4.out
 all_goals
  rw [if_pos (by decide)]
  clear CP HFN HL HS HL3
  go_enter Tryz.func89,Tryz.ntmps89
  go_wp2_with (first
   | (go_at_call 118;(with_reducible refine (CF.out _ HB).mono ?_);rintro e w1 ⟨rfl,hb1⟩)
   | fail)
  go_ret
  exact ⟨rfl,hb1⟩
end
section
variable {base p g y N:Nat} {W W0 W1 W2 W':World} {x x1:TPl} {T T2:Tb} {S S':List Nat}
theorem Turn.fit (h:Turn S W W') (hs:∀ k ∈ S,k ∈ S' ∨ W.heap.size≤k):Turn S' W W' :=
 ⟨h.os,h.tape,h.output,h.size,fun k hk hn=>h.block k hk (fun hm=>(hs k hm).elim hn (fun h=>by omega))⟩
theorem Stp.pre (s:Stp base W g p y x T W1) (hb:Hid (Below W0.heap.size W0 W)):Stp base W0 g p y x T W1:=by
 obtain ⟨x',h1,t,k,hx⟩:=s
 exact ⟨x',h1,((Turn.of hb).trans t).mono (by simp),(KU.below hb).trans k,fun j hj=>(hx j hj).imp id (fun h=>Nat.le_trans hb.out.size h)⟩
theorem Stp.comp (t:Turn (x.all g p y) W W1) (k:KU W W1) (hx:∀ j ∈ x1.all g p y,j ∈ x.all g p y ∨ W.heap.size≤j) (s:Stp base W1 g p y x1 T2 W2):Stp base W g p y x T2 W2:=by
 obtain ⟨x2,h,t2,k2,hx2⟩:=s
 refine ⟨x2,h,(t.trans t2).fit fun j hj=>?_,k.trans k2,fun j hj=>?_⟩
 ·rcases List.mem_append.1 hj with h1 | h1
  ·exact .inl h1
  ·exact hx j h1
 ·rcases hx2 j hj with h1 | h1
  ·exact hx j h1
  ·exact .inr (Nat.le_trans t.size h1)
theorem Stp.below (s:Stp base W g p y x T W1) (h:LdM base W g p y x T2) (hb:base≤W.heap.size):Below base W W1:=by
 obtain ⟨x',h1,t,k,hx⟩:=s
 exact t.below (fun k hk=>(h.all_lt k hk).1) hb
theorem steps_bd (ok:OkT N T) {b:Nat}:∀ (l:List (AL × Int)) (q:Rat) (K:Nat),(∀ z ∈ l,(∃ m,lookL T.ents z.1.2.1=some m)∧(z.2=1 ∨ z.2 = -1))→Bd q K→Bd (l.foldl (T.stepF b) q) (K + 15 * l.length)
 | [],q,K,_,h=>h
 | z :: l,q,K,hl,h=>by
   rw [List.foldl_cons,List.length_cons,show K + 15 * (l.length + 1)=K + 15 + 15 * l.length by omega]
   refine steps_bd ok l _ (K + 15) (fun z hz=>hl z (List.mem_cons_of_mem _ hz)) ?_
   unfold Tb.stepF
   split
   ·obtain ⟨⟨m,hm⟩,hs⟩:=hl z List.mem_cons_self
    exact bd_mulT h (turned_pos ok hm hs).2
   ·exact h.more (by omega)
theorem bit_bd (ok:OkT N T) {b K:Nat} {l:List (AL × Int)} {q:Rat} (hl:∀ z ∈ l,(∃ m,lookL T.ents z.1.2.1=some m)∧(z.2=1 ∨ z.2 = -1)) (h8:l.length≤8) (h:Bd q K):Bd (T.bitF l q b) (2 * K + 120):=by
 unfold Tb.bitF
 have h2:Bd (q ^ 2) (K + K):=by
  rw [show q ^ 2=q * q by rw [Rat.pow_succ,Rat.pow_succ,Rat.pow_zero,Rat.one_mul]]
  exact bd_mulT h h
 exact (steps_bd ok l _ _ hl h2).more (by omega)
theorem factor_bd {p:PL} (ok:OkT N T) (hp:PtOk T.names p):Bd (T.factor p) 1900:=by
 have hl:∀ z ∈ sgA (p.1,p.2.1),(∃ m,lookL T.ents z.1.2.1=some m)∧(z.2=1 ∨ z.2 = -1):=fun z hz=>by
  obtain ⟨k,hk⟩:=List.getElem?_of_mem hz
  exact ⟨known_ent (hp.at_ _ (sg_mem hk)),sg_sign hk⟩
 have h8:(sgA (p.1,p.2.1)).length≤8:=by
  have h1:=hp.len
  unfold sgA
  simpa using h1
 have hu:Bd (mkRat 1 (nuOf p.2.2)) 11:=tt_bd ⟨nu_pos hp.num,rfl,by decide,nu_lt hp.num⟩
 have h1:Bd (1:Rat) 1:=⟨by decide,by decide⟩
 unfold Tb.factor
 simp only [List.foldl_cons,List.foldl_nil]
 exact (bd_mulT (bit_bd ok hl h8 (bit_bd ok hl h8 (bit_bd ok hl h8 (bit_bd ok hl h8 h1)))) hu).more (by omega)
end
section
variable {base p g y:Nat} {W W':World} {x:TPl} {T:Tb} {s:ByteArray} {a:V8}
theorem quan_more (h:quanB s=true):s.toList.isEmpty=false:=by
 cases he:s.toList.isEmpty with
 | false=>rfl
 | true =>
   have h0:s.size=0:=by rw [List.isEmpty_iff] at he;rw [Lib.size_eq,← toList_data,he];rfl
   have e:s=⟨#[]⟩:=by
    obtain ⟨d⟩:=s
    have:d = #[]:=Array.eq_empty_of_size_eq_zero h0
    rw [this]
   subst e
   exact absurd h (by decide +kernel)
def QpR (base:Nat) (W:World) (g p y:Nat) (x:TPl) (T:Tb) (a:V8) (s:ByteArray) (t:Bool) (e:Ending) (w':World):Prop :=
 if t=true then e = .returned (.bool false)∧Bel W w' else e = .returned (.bool true)∧Stp base W g p y x { T with qv:=T.qv ++ [a],qn:=T.qn ++ [s] } w'∧w'.heap[g]? = W.heap[g]? ∧ w'.heap[p]? = W.heap[p]?
theorem tqput_h {t:Bool} (h:LdM base W g p y x T) (hbase:base≤W.heap.size) (hl:T.qn.length≤900000) (ha:a.wf) (hs:s.toList.isEmpty=false) (ht:decide (a ∈ T.qv)=t) :
 Calls Tryz.prog 121 #[.pointer (some ⟨x.p2,0,none⟩),a.v,.string s] W (QpR base W g p y x T a s t):=by
 cases t with
 | true=>exact (qput_taken h.tab.qs ha (of_decide_eq_true ht)).mono fun e w' hh=>by unfold QpR;rw [if_pos rfl];exact hh
 | false =>
   obtain ⟨A,c,e4⟩:=h.tab.qs.form
   have hq:=h.tab.qs
   rw [e4] at hq
   have ap:=h.apart
   refine (qput_new hq hbase (by omega) ha (of_decide_eq_false ht) hs rfl).mono ?_
   rintro e w' ⟨h1,v',h2,h3,h4,h5⟩
   have h3':Turn (x.p2 :: x.b4 :: x.v4.ownBlock.toList) W w':=by rw [e4];exact h3
   have hne:∀ k,k ≠ x.p2→k ≠ x.b4→k ∉ x.rows→k ∉ x.p2 :: x.b4 :: x.v4.ownBlock.toList:=fun k k1 k2 k3 hm=>by
    rcases List.mem_cons.1 hm with hm | hm
    ·exact k1 hm
    ·rcases List.mem_cons.1 hm with hm | hm
     ·exact k2 hm
     ·exact k3 (TPl.row4 (Option.mem_toList.1 hm))
   unfold QpR
   rw [if_neg (by decide)]
   refine ⟨h1,quan_end h h3' h5 h2 (by rw [e4];exact h4),h3'.block g h.lt (hne g ap.g2 (ap.mg x.b4 (by simp)).1.symm ap.rg.1),h3'.block p h.tab.lt (hne p ap.p2 (ap.mg x.b4 (by simp)).2.1.symm ap.rg.2.1)⟩
end
end Go.Proofs.YtfflmmbhpchloaaGreatDoor
end
