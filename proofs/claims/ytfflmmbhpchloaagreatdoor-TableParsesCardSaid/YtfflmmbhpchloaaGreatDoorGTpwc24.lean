/- Each theorem here says its own conditions. -/
import Derived.Test.YtfflmmbhpchloaaGreatDoorGTpwc21
set_option maxRecDepth 100000
set_option maxHeartbeats 16000000
section
open Go.RowKit
open Go.Proofs.YtfflmmbhpchloaaGreatDoor.V
namespace Go.Proofs.YtfflmmbhpchloaaGreatDoor
def KU (W W':World):Prop:=W.heap.size≤W'.heap.size ∧ ∀ (a:Addr) (x:Nat),W.cell? a=some (U32 x)→W'.cell? a=some (U32 x)
structure Turn (S:List Nat) (W W':World):Prop where
 os:W'.os=W.os
 tape:W'.tape=W.tape
 output:W'.output=W.output
 size:W.heap.size≤W'.heap.size
 block:∀ k,k < W.heap.size→k ∉ S→W'.heap[k]? = W.heap[k]?
section
variable {W W' W'':World} {S S':List Nat} {b base:Nat}
theorem KU.trans (h:KU W W') (k:KU W' W''):KU W W'':=⟨Nat.le_trans h.1 k.1,fun a x e=>k.2 a x (h.2 a x e)⟩
theorem KU.below (h:Hid (Below W.heap.size W W')):KU W W':=⟨h.out.size,fun a x e=>(h.out.cell (World.block_lt_of_cell? _ _ e)).trans e⟩
theorem KU.set {a:Addr} {v u:Value} (hc:W.cell? a=some v) (hv:∀ x,v ≠ U32 x):KU W (W.setCell a u):=by
 refine ⟨by simp [World.setCell],fun c x e=>?_⟩
 by_cases h:a=c
 ·subst h;rw [hc] at e;injection e with e;exact absurd e (hv x)
 ·exact (World.cell?_setCell_other _ _ _ _ h).trans e
theorem KU.grown (hg:W.grownBy W' (some b)) (hb:∀ (a:Addr) (x:Nat),a.block=b→W.cell? a ≠ some (U32 x)):KU W W' :=
 ⟨hg.size,fun a x e=>hg.cell e (fun h=>hb a x (by injection h) e)⟩
theorem KU.map {l:List (ByteArray × Value)} (hg:W.grownBy W' (some b)) (h:MapV W b l):KU W W' :=
 KU.grown hg fun a x ha hc=>by
  obtain ⟨D,⟨es,clock,h1,_⟩,_⟩:=h
  subst ha
  simp [World.cell?,h1] at hc
theorem Nm.ku {A:Option Addr} {n c m:Nat} (h:Nm W A n c m) (k:KU W W'):Nm W' A n c m:=by
 obtain ⟨ws,h1,h2,h3,h4,h5,h6⟩:=h.out
 refine ⟨ws,h1,h2,h3,fun hn=>?_,h5,h6⟩
 obtain ⟨ad,e,hb,hc⟩:=h4 hn
 exact ⟨ad,e,Nat.lt_of_lt_of_le hb k.1,fun j x hj=>k.2 _ _ (hc j x hj)⟩
theorem QA.ku {s:Bool} {A A':Option Addr} {n c n' c' K:Nat} {r:Rat} (h:QA W s A n c A' n' c' r K) (k:KU W W'):QA W' s A n c A' n' c' r K:=by
 obtain ⟨z,d,h1,h2,h3⟩:=h
 exact ⟨z,d,⟨h1.1.ku k,h1.2⟩,h2.ku k,h3⟩
theorem Turn.refl (W:World):Turn [] W W:=⟨rfl,rfl,rfl,Nat.le_refl _,fun _ _ _=>rfl⟩
theorem Turn.trans (h:Turn S W W') (k:Turn S' W' W''):Turn (S ++ S') W W'' :=
 ⟨k.os.trans h.os,k.tape.trans h.tape,k.output.trans h.output,Nat.le_trans h.size k.size,fun i hi hn=>by
   rw [List.mem_append,not_or] at hn
   exact (k.block i (Nat.lt_of_lt_of_le hi h.size) hn.2).trans (h.block i hi hn.1)⟩
theorem Turn.mono (h:Turn S W W') (hs:∀ k ∈ S,k ∈ S'):Turn S' W W':=⟨h.os,h.tape,h.output,h.size,fun k hk hn=>h.block k hk (fun h=>hn (hs k h))⟩
theorem Turn.below (h:Turn S W W') (hs:∀ k ∈ S,base≤k) (hb:base≤W.heap.size):Below base W W' :=
 ⟨h.os,h.tape,h.output,h.size,fun k hk=>h.block k (by omega) (fun h=>by have:=hs k h;omega)⟩
theorem Turn.of (h:Hid (Below W.heap.size W W')):Turn [] W W':=⟨h.out.os,h.out.tape,h.out.output,h.out.size,fun k hk _=>h.out.block k hk⟩
theorem Turn.grown {v:Option Nat} (h:W.grownBy W' v):Turn v.toList W W':=⟨h.os,h.tape,h.output,h.size,fun k hk hn=>h.block k hk (fun e=>hn (by rw [← e];simp))⟩
theorem Turn.set (W:World) (a:Addr) (u:Value):Turn [a.block] W (W.setCell a u) :=
 ⟨rfl,rfl,rfl,by simp [World.setCell],fun k _ hn=>Below.heap_setCell _ _ _ _ (by simpa using hn)⟩
theorem MapV.turn {l:List (ByteArray × Value)} (h:MapV W b l) (t:Turn S W W') (hn:b ∉ S):MapV W' b l:=h.keep (t.block b h.lt hn)
end
structure Row (W:World) (base:Nat) (v:Value) (xs:List ByteArray):Prop where
 own:W.ownsRow base 9 1 v xs.length (xs.map Value.string)
 all:∀ g cs t fr,v.ownBlock=some g→W.heap[g]? = some (.cells cs t fr) → ∀ c ∈ cs.toList,∃ s,c=Value.string s
section
variable {W W':World} {S:List Nat} {base:Nat} {v:Value} {xs:List ByteArray}
theorem Row.nil (W:World) (base:Nat):Row W base (.slice none 0 0) []:=⟨World.ownsRow_nil _ _ _ _,fun g cs t fr h=>by cases h⟩
theorem Row.turn (h:Row W base v xs) (t:Turn S W W') (hn:∀ g,v.ownBlock=some g→g ∉ S):Row W' base v xs:=by
 have hk:∀ g,v.ownBlock=some g→W'.heap[g]? = W.heap[g]?:=fun g hg=>t.block g (h.own.lt g hg).2 (hn g hg)
 refine ⟨⟨h.own.1,?_⟩,fun g cs ty fr hg hc=>h.all g cs ty fr hg ((hk g hg).symm.trans hc)⟩
 rcases h.own.2 with h1 | ⟨g,cap,cur,rfl,hb,hgg,rest⟩
 ·exact .inl h1
 ·exact .inr ⟨g,cap,cur,rfl,hb,(hk g rfl).trans hgg,rest⟩
theorem Row.up (h:Row W base v xs) (hb:Hid (Below W.heap.size W W')):Row W' base v xs:=h.turn (Turn.of hb) (fun _ _=>List.not_mem_nil)
theorem Row.noU (h:Row W base v xs) {g:Nat} (hg:v.ownBlock=some g) (a:Addr) (x:Nat) (ha:a.block=g):W.cell? a ≠ some (U32 x):=fun hc=>by
 obtain ⟨cs,t,fr,ho,hi⟩:∃ cs t fr,W.heap[g]? = some (.cells cs t fr)∧cs[a.off]? = some (U32 x):=by
  unfold World.cell? at hc
  rw [ha] at hc
  cases ho:W.heap[g]? with
  | none=>rw [ho] at hc;cases hc
  | some o =>
    rw [ho] at hc
    cases o with
    | cells cs t fr =>
      refine ⟨cs,t,fr,rfl,?_⟩
      dsimp only at hc
      split at hc
      ·cases hc
      ·exact hc
    | _=>cases hc
 obtain ⟨s,e⟩:=h.all g cs t fr hg ho (U32 x) (by rw [Array.mem_toList_iff];exact Array.mem_of_getElem? hi)
 cases e
theorem Row.form (h:Row W base v xs):∃ A c,v = .slice A xs.length c∧xs.length≤c∧(A=none→c=0):=by
 rcases h.own.2 with ⟨rfl,h0⟩ | ⟨g,cap,cur,rfl,_,_,hc,_⟩
 ·exact ⟨none,0,by rw [h0],by omega,fun _=>rfl⟩
 ·exact ⟨_,cap,rfl,hc,fun h=>by cases h⟩
theorem Row.ss {A:Option Addr} {n c:Nat} (h:Row W base (.slice A n c) xs):Ss W A xs∧n=xs.length:=by
 obtain ⟨A',c',e,h1,h2⟩:=h.form
 injection e with e1 e2 e3
 subst e1;subst e2;subst e3
 exact ⟨RS.of_own h.own,rfl⟩
end
theorem infoStrT:(Tryz.prog.info? 9).map (fun i=>(i.zero,i.size,i.bytes))=some (some (.string ByteArray.empty),1,16):=by kernel_rfl
theorem zeros_str (k:Nat):∀ c ∈ (Builtin.zeroCells (Value.string ByteArray.empty).cells k).toList,∃ s,c=Value.string s:=by
 intro c hc
 unfold Builtin.zeroCells at hc
 simp only [Array.toList_map,List.mem_map] at hc
 obtain ⟨i,_,rfl⟩:=hc
 refine ⟨ByteArray.empty,?_⟩
 have:(Value.string ByteArray.empty).cells = #[Value.string ByteArray.empty]:=rfl
 rw [this]
 have h1:i % (#[Value.string ByteArray.empty]:Array Value).size=0:=by simp [Nat.mod_one]
 rw [h1];rfl
theorem row_new {W:World} {base cap:Nat} {cs:Array Value} {xs:List ByteArray} (hb:base≤W.heap.size) (hc:cs.size=cap) (hle:xs.length≤cap) (hcm:cap≤maxLen) (htake:cs.toList.take xs.length=xs.map Value.string) (hall:∀ c ∈ cs.toList,∃ s,c=Value.string s) :
 Row (W.drew.alloc (.cells cs 9)) base (.slice (some ⟨W.heap.size,0,none⟩) xs.length cap) xs:=by
 have hn:(W.drew.alloc (.cells cs 9)).heap[W.heap.size]? = some (.cells cs 9 (0,0)):=heap_alloc_new W.drew _
 refine ⟨⟨by simp,.inr ⟨W.heap.size,cap,cs,rfl,hb,hn,hle,hcm,by omega,by rw [Nat.mul_one];exact htake⟩⟩,fun g cs' t fr hg he=>?_⟩
 injection hg with hg
 rw [← show W.heap.size=g from hg,hn] at he
 injection he with he
 injection he with he _ _
 rw [← he];exact hall
theorem plain_addT (g k:Nat):(⟨g,0,none⟩:Addr).add k=⟨g,k,none⟩:=by unfold Addr.add;split <;> simp_all
theorem grown_new (W:World) (o:Obj) (r:Option Nat):W.grownBy (W.drew.alloc o) r:=⟨rfl,rfl,rfl,by simp,fun k hk _=>Below.heap_alloc W.drew o k hk⟩
theorem ku_new (W:World) (o:Obj):KU W (W.drew.alloc o):=KU.below (((Below.refl _ W).drew).alloc (Nat.le_refl _) o)
theorem run_append_str {W:World} {base q:Nat} {v:Value} {xs:List ByteArray} {y:ByteArray} (h:Row W base v xs) (t ty:TypeId) (ht:Tryz.prog.underlying t=some (.slice 9)) (hy:W.cell? ⟨q,0,none⟩=some (.string y)) (hl:xs.length + 1≤1000000) (hb:base≤W.heap.size) :
 ∃ v' W',(Builtin.append_ #[t,t] ty #[v,.slice (some ⟨q,0,none⟩) 1 1]).run Tryz.prog W = .ok v' W'∧Row W' base v' (xs ++ [y])∧W.grownBy W' v.ownBlock∧(v'.ownBlock=v.ownBlock ∨ ∃ g,v'.ownBlock=some g∧W.heap.size≤g)∧KU W W':=by
 obtain ⟨i0,hi,hz0,hz1,hz2⟩:=info_parts infoStrT
 have hnews:∀ j u,[Value.string y][j]? = some u→W.cell? ((⟨q,0,none⟩:Addr).add j)=some u:=by
  intro j u hj
  match j,hj with
  | 0,hj=>injection hj with hj;rw [plain_addT,← hj];exact hy
 have h1:∀ u ∈ [Value.string y],u.oneCell'=true:=by intro u hu;rw [List.mem_singleton.1 hu];rfl
 have hln:[Value.string y].length=1 * i0.size:=by rw [hz1];rfl
 have hcap:∀ old,xs.length + 1≤grownCap W (xs.length + 1) old 9∧grownCap W (xs.length + 1) old 9≤maxLen:=fun old=>⟨grownCap_ge _ _ _ _,grownCap_le_maxLen _ _ _ _ (by unfold maxLen;omega)⟩
 have hnew:∀ old,Row (W.drew.alloc (.cells ((xs.map Value.string).toArray ++ [Value.string y].toArray ++ Builtin.zeroCells (Value.string ByteArray.empty).cells (grownCap W (xs.length + 1) old 9 - (xs.length + 1))) 9)) base (.slice (some ⟨W.heap.size,0,none⟩) (xs.length + 1) (grownCap W (xs.length + 1) old 9)) (xs ++ [y]):=by
  intro old
  obtain ⟨c1,c2⟩:=hcap old
  have hlen:(xs ++ [y]).length=xs.length + 1:=by simp
  have e:=row_new (W:=W) (base:=base) (cap:=grownCap W (xs.length + 1) old 9) (cs:=(xs.map Value.string).toArray ++ [Value.string y].toArray ++ Builtin.zeroCells (Value.string ByteArray.empty).cells (grownCap W (xs.length + 1) old 9 - (xs.length + 1))) (xs:=xs ++ [y]) hb ?_ (by omega) c2 ?_ ?_
  ·rw [hlen] at e;exact e
  ·simp only [Array.size_append,List.size_toArray,size_zeroCells,List.length_map,List.length_cons,List.length_nil]
   have:(Value.string ByteArray.empty).cells.size=1:=rfl
   rw [this];omega
  ·simp only [Array.toList_append,hlen,List.map_append,List.map_cons,List.map_nil]
   exact List.take_left' (by simp)
  ·intro c hc
   simp only [Array.toList_append,List.mem_append] at hc
   rcases hc with (hc | hc) | hc
   ·obtain ⟨s,_,e⟩:=List.mem_map.1 hc;exact ⟨s,e.symm⟩
   ·exact ⟨y,List.mem_singleton.1 hc⟩
   ·exact zeros_str _ c hc
 rcases h.own.2 with ⟨rfl,h0⟩ | ⟨g,cap,cur,rfl,hbg,hg,hnc,hcm,hcs,htake⟩
 ·have hx:xs=[]:=List.eq_nil_of_length_eq_zero h0
  subst hx
  have hr:=run_append_nil (P:=Tryz.prog) W t ty 9 i0 (.string ByteArray.empty) ht hi hz0 ⟨q,0,none⟩ 1 1 [.string y] hln hnews (by omega) (by omega) (by rw [hz2];omega)
  have e:=hnew 0
  simp only [List.length_nil,Nat.zero_add,List.map_nil] at e
  have ea:(([]:List Value).toArray ++ [Value.string y].toArray)=[Value.string y].toArray:=by simp
  rw [ea] at e
  exact ⟨_,_,hr,e,grown_new _ _ _,.inr ⟨_,rfl,Nat.le_refl _⟩,ku_new _ _⟩
 ·have hlen:(xs ++ [y]).length=xs.length + 1:=by simp
  by_cases hroom:xs.length + 1≤cap
  ·have hr:=run_append_room (P:=Tryz.prog) W t ty 9 i0 ht hi g xs.length cap cur hg ⟨q,0,none⟩ 1 1 [.string y] hln hnews h1 hroom (by rw [hz1];simp;omega)
   rw [hz1,Nat.mul_one] at hr
   rw [Nat.mul_one] at htake hcs
   have hgr:W.grownBy (W.setRow g (cur.toList.take xs.length ++ [Value.string y] ++ cur.toList.drop (xs.length + [Value.string y].length)).toArray) (some g):=⟨rfl,rfl,rfl,by simp [World.setRow],fun k _ hk=>setRow_other W g k _ (fun e=>hk (by rw [e]))⟩
   have hh:=setRow_heap W g cur (cur.toList.take xs.length ++ [Value.string y] ++ cur.toList.drop (xs.length + [Value.string y].length)).toArray _ _ hg
   refine ⟨_,_,hr,⟨⟨by simp,.inr ⟨g,cap,_,by rw [hlen],hbg,hh,by omega,hcm,?_,?_⟩⟩,?_⟩,hgr,.inl rfl,KU.grown hgr fun a x ha=>h.noU (g:=g) rfl a x ha⟩
   ·simp only [List.size_toArray,List.length_append,List.length_take,List.length_drop,Array.length_toList,List.length_cons,List.length_nil]
    omega
   ·rw [hlen,Nat.mul_one,htake]
    simp only [List.map_append,List.map_cons,List.map_nil]
    exact List.take_left' (by simp)
   ·intro g' cs t' fr hg' he c hc
    injection hg' with hg'
    rw [← show g=g' from hg',hh] at he
    injection he with he
    injection he with he _ _
    rw [← he] at hc
    simp only [List.mem_append] at hc
    rcases hc with (hc | hc) | hc
    ·exact h.all g cur _ _ rfl hg c (List.mem_of_mem_take hc)
    ·exact ⟨y,List.mem_singleton.1 hc⟩
    ·exact h.all g cur _ _ rfl hg c (List.mem_of_mem_drop hc)
  ·have holds:∀ j u,(xs.map Value.string)[j]? = some u→W.cell? ((⟨g,0,none⟩:Addr).add j)=some u:=h.own.cells (g:=g) rfl
   have hr:=run_append_grow (P:=Tryz.prog) W t ty 9 i0 (.string ByteArray.empty) ht hi hz0 ⟨g,0,none⟩ xs.length cap (xs.map Value.string) (by rw [hz1];simp) holds ⟨q,0,none⟩ 1 1 [.string y] hln hnews (by omega) (by omega) (growslice_fits (by omega) (by rw [hz2];omega))
   exact ⟨_,_,hr,hnew cap,grown_new _ _ _,.inr ⟨_,rfl,Nat.le_refl _⟩,ku_new _ _⟩
theorem wpList_append_str {W:World} {ops:Array Oper} {rest:List Oper} {o:Oper} {a:Act} {Q:Exit→Act→World→Prop} (hgd:o.guard=none) (s x:Operand) (t:TypeId)
 (ho:o.op = .call { callee:=.builtin .append,args:=#[s,x],argTypes:=#[t,t] }) (ht:Tryz.prog.underlying t=some (.slice 9)) (base:Nat) (v:Value) (xs:List ByteArray) (hs:a.eval s=v) (h:Row W base v xs)
 (q:Nat) (y:ByteArray) (hx:a.eval x = .slice (some ⟨q,0,none⟩) 1 1) (hy:W.cell? ⟨q,0,none⟩=some (.string y)) (hl:xs.length + 1≤1000000) (hb:base≤W.heap.size)
 (hk:∀ v' W',Row W' base v' (xs ++ [y])→W.grownBy W' v.ownBlock→(v'.ownBlock=v.ownBlock ∨ ∃ g,v'.ownBlock=some g∧W.heap.size≤g)→KU W W'→wpList Tryz.prog ops Q rest (a.put o.dst v') W'):wpList Tryz.prog ops Q (o :: rest) a W:=by
 refine wpList_plain hgd fun K hK=>?_
 obtain ⟨v',W',hr,h2,h3,h4,h5⟩:=run_append_str (v:=v) h t o.type ht hy hl hb
 unfold Oper.wp execOp
 simp only [ho,resolve,invoke,builtin,Sem.run_bind,Sem.run_pure,Result.andThen_ok,List.map_toArray,List.map_cons,List.map_nil,hs,hx,hr]
 exact hK _ _ (hk v' W' h2 h3 h4 h5)
theorem noU_map {W:World} {b:Nat} (h:∀ cs t fr,W.heap[b]? ≠ some (.cells cs t fr)) (a:Addr) (x:Nat) (ha:a.block=b):W.cell? a ≠ some (U32 x):=fun hc=>by
 unfold World.cell? at hc
 rw [ha] at hc
 cases ho:W.heap[b]? with
 | none=>rw [ho] at hc;cases hc
 | some o =>
   rw [ho] at hc
   cases o with
   | cells cs t fr=>exact h cs t fr ho
   | _=>cases hc
structure QnM (base:Nat) (W:World) (p b:Nat) (v:Value) (vs:List V8) (xs:List ByteArray):Prop where
 blk:W.heap[p]? = some (.cells #[v,.map (some b)] 140 (0,0))
 hp:base≤p
 hb:base≤b
 row:Row W base v xs
 map:MapIs W b vs
 len:vs.length=xs.length
 nil:xs=[]→v = .slice none 0 0
section
variable {base p b:Nat} {v:Value} {vs:List V8} {xs:List ByteArray} {W W':World} {S:List Nat}
theorem QnM.lt (h:QnM base W p b v vs xs):p < W.heap.size:=(Array.getElem?_eq_some_iff.1 h.blk).1
theorem QnM.turn (h:QnM base W p b v vs xs) (t:Turn S W W') (h1:p ∉ S) (h2:b ∉ S) (h3:∀ g,v.ownBlock=some g→g ∉ S):QnM base W' p b v vs xs :=
 ⟨(t.block p h.lt h1).trans h.blk,h.hp,h.hb,h.row.turn t h3,h.map.keep (t.block b h.map.lt h2),h.len,h.nil⟩
theorem QnM.up (h:QnM base W p b v vs xs) (hb:Hid (Below W.heap.size W W')):QnM base W' p b v vs xs:=h.turn (Turn.of hb) List.not_mem_nil List.not_mem_nil (fun _ _=>List.not_mem_nil)
theorem QnM.al (h:QnM base W p b v vs xs) (o:Obj):QnM base (W.alloc o) p b v vs xs:=h.up ((Below.refl _ _).alloc (Nat.le_refl _) o)
theorem QnM.form (h:QnM base W p b v vs xs):∃ A c,v = .slice A xs.length c:=by obtain ⟨A,c,e,_⟩:=h.row.form;exact ⟨A,c,e⟩
theorem QnM.nms {A:Option Addr} {n c:Nat} (h:QnM base W p b (.slice A n c) vs xs):Nms base W p b A c n vs xs:=by
 obtain ⟨A',c',e⟩:=h.form
 injection e with e1 e2 e3
 subst e2
 refine ⟨h.blk,h.hp,h.hb,h.row.own,h.map,h.len,fun h0=>?_⟩
 have:=h.nil (List.eq_nil_of_length_eq_zero h0)
 injection this with h1 _ h2
 exact ⟨h1,h2⟩
theorem QnM.ne_pb (h:QnM base W p b v vs xs):p ≠ b:=fun e=>h.map.not_cells (e ▸ h.blk)
theorem QnM.ne_pr (h:QnM base W p b v vs xs):v.ownBlock ≠ some p:=by
 obtain ⟨A,c,e⟩:=h.form
 exact own_ne_cells h.row.own h.blk (by decide)
theorem QnM.ne_br (h:QnM base W p b v vs xs):v.ownBlock ≠ some b:=by
 intro e
 rcases h.row.own.2 with ⟨h1,_⟩ | ⟨g,cap,cur,h1,_,h2,_⟩
 ·rw [h1] at e;cases e
 ·rw [h1] at e;injection e with e
  exact h.map.not_cells ((show g=b from e) ▸ h2)
end
theorem sub3 {b p:Nat} {l:List Nat}:∀ k ∈ (b :: l) ++ [p],k ∈ p :: b :: l:=by
 intro k hk
 rcases List.mem_append.1 hk with h | h
 ·exact List.mem_cons_of_mem _ h
 ·rw [List.mem_singleton.1 h];exact List.mem_cons_self
theorem qnew_h (w:World):Calls Tryz.prog 84 #[] w fun e w'=>∃ p b,e = .returned (.pointer (some ⟨p,0,none⟩))∧QnM w.heap.size w' p b (.slice none 0 0) [] []∧p < w'.heap.size∧b < w'.heap.size∧Hid (Below w.heap.size w w') :=
 (newNames_h w).mono fun e w' ⟨p,b,he,hn,hb⟩=>⟨p,b,he,⟨hn.blk,hn.hp,hn.hb,Row.nil _ _,hn.map,rfl,fun _=>rfl⟩,hn.lt,hn.map.lt,hb⟩
theorem qput_taken {base p b:Nat} {v:Value} {vs:List V8} {xs:List ByteArray} {W:World} {a:V8} {s:ByteArray} (h:QnM base W p b v vs xs) (ha:a.wf) (hm:a ∈ vs) :
 Calls Tryz.prog 121 #[.pointer (some ⟨p,0,none⟩),a.v,.string s] W (RetB W false):=by
 obtain ⟨A,c,rfl⟩:=h.form
 exact (put_taken h.nms ha hm).mono fun e w' ⟨h1,h2⟩=>⟨h1,h2⟩
theorem qput_new {base p b:Nat} {A:Option Addr} {n cp:Nat} {vs:List V8} {xs:List ByteArray} {W:World} {a:V8} {s:ByteArray} (h:QnM base W p b (.slice A n cp) vs xs) (hbase:base≤W.heap.size) (hn:n≤999999) (ha:a.wf) (hm:¬ a ∈ vs) (hs:s.toList.isEmpty=false) {r:Option Nat} (hr:(Value.slice A n cp).ownBlock=r) :
 Calls Tryz.prog 121 #[.pointer (some ⟨p,0,none⟩),a.v,.string s] W fun e w'=>e = .returned (.bool true) ∧ ∃ v',QnM base w' p b v' (vs ++ [a]) (xs ++ [s])∧Turn (p :: b :: r.toList) W w'∧(v'.ownBlock=r ∨ ∃ g,v'.ownBlock=some g∧W.heap.size≤g)∧KU W w':=by
 have hl:=h.lt
 have HRO:=khide hr
 clear hr
 have HLEN:Hid (n=xs.length):=(Row.ss h.row).2
 have hnm:=h.nms
 obtain ⟨W1,hW1⟩:∃ X,X=W.alloc (.cells a.c.toArray 36):=⟨_,rfl⟩
 have HA:At W1 W.heap.size a.c:=by rw [hW1];exact at_new0 W a.c _
 have HN:QnM base W1 p b (.slice A n cp) vs xs:=by rw [hW1];exact h.al _
 have HB:Hid (Below W.heap.size W W1):=by rw [hW1];exact (Below.refl _ _).alloc (Nat.le_refl _) _
 obtain ⟨c,hlook,hc⟩:=HN.map.look ha
 rw [decide_eq_false hm] at hlook
 have n1:=HN.nms.c1
 clear hc hnm
 have HH:=khide h
 clear h
 have HM:=khide hm
 have HBS:=khide hbase
 have n0:=HN.nms.c0
 have hs2:(!s.toList.isEmpty)=true:=by rw [hs];rfl
 clear hm hbase
 have HW1:=khide hW1
 clear hW1
 go_enter Tryz.func121,Tryz.ntmps121
 go_wp2
 rw [← HW1.out]
 clear HW1
 obtain ⟨a0,a1,a2,a3,a4,a5,a6,a7⟩:=HA.v8
 go_quiet (fail)
 go_wp2_with fail
 obtain ⟨W2,hW2⟩:∃ X,X=W1.drewN nq:=⟨_,rfl⟩
 rw [← hW2]
 replace HB:Hid (Below W.heap.size W W2):=by rw [hW2];exact ybelow_drewN HB.out nq
 have HBN:Hid (Below W1.heap.size W1 W2):=by rw [hW2];exact ybelow_drewN (Below.refl _ _) nq
 replace HN:QnM base W2 p b (.slice A n cp) vs xs:=HN.up HBN
 replace HA:At W2 W.heap.size a.c:=by rw [hW2];exact ⟨HA.lt,HA.all⟩
 clear hW2 hlook a0 a1 a2 a3 a4 a5 a6 a7 n0 n1 HBN
 obtain ⟨a0,a1,a2,a3,a4,a5,a6,a7⟩:=HA.v8
 have n0:=HN.nms.c0
 have n1:=HN.nms.c1
 have hd:MapIs W2.drew b vs:=HN.map
 obtain ⟨W3,hrun,hmap,hgrow⟩:=hd.put ha HM.out (by rw [HN.len,← HLEN.out];omega)
 rw [HN.len,← HLEN.out] at hrun
 go_still_tail 10,(by kernel_rfl)
 have t3:Turn [b] W2.drew W3:=Turn.grown hgrow
 have e1:W3.heap[p]? = W2.heap[p]?:=t3.block p HN.lt (by simp [HN.ne_pb])
 have r3:Row W3 base (.slice A n cp) xs:=Row.turn (W:=W2.drew) (HN.row.turn (Turn.of ((Below.refl _ _).drew)) (fun _ _=>List.not_mem_nil)) t3 (fun g hg=>by have:=HN.ne_br;rw [hg] at this;simp;intro e;exact this (by rw [e]))
 have T3:Hid (Turn [b] W W3):=((Turn.of HB).trans ((Turn.of ((Below.refl _ W2).drew)).trans t3)).mono (by simp)
 have K3:Hid (KU W W3):=(KU.below HB).trans ((KU.below ((Below.refl _ W2).drew)).trans (KU.grown hgrow (noU_map (fun cs t fr hc=>MapIs.not_cells hd hc))))
 have HS3:Hid (base≤W3.heap.size):=Nat.le_trans HBS.out T3.out.size
 have B3:=khide (e1.trans HN.blk)
 have m0:W3.cell? ⟨p,0,none⟩=some (.slice A n cp):=by simp [World.cell?,B3.out]
 have mf0:W3.frozen? ⟨p,0,none⟩=false:=by simp [World.frozen?,B3.out]
 have mlt:p < W3.heap.size:=(Array.getElem?_eq_some_iff.1 B3.out).1
 have HP:=khide HN.hp
 have HBB:=khide HN.hb
 have HL:=khide HN.len
 have HRN:=khide HN.ne_pr
 have HRB:=khide HN.ne_br
 have HNE:=khide HN.ne_pb
 have HMP:=khide hmap
 have HO:=khide r3
 clear e1 r3 hmap hgrow HB HN HA a0 a1 a2 a3 a4 a5 a6 a7 n0 n1 hd hl HM HBS ha t3
 go_wp2_with (first
  | (at_builtin;refine wpList_append_str (by rfl) _ _ 60 (by rfl) Tryz.underlying60 base _ xs (by rfl) (HO.out.up ((Below.refl _ _).alloc (Nat.le_refl _) _)) W3.heap.size s (by rfl) (at_new0 _ _ _).c0 (by rw [← HLEN.out];omega) (Nat.le_trans HS3.out (Nat.le_of_lt (heap_lt W3 _))) ?_)
  | fail)
 intro v1 w4 ho1 hg1 hloc hku
 obtain ⟨A1,cap1,rfl⟩:∃ A1 cap1,v1 = .slice A1 (n + 1) cap1:=by
  obtain ⟨A1,c1,e,_⟩:=ho1.form
  exact ⟨A1,c1,by rw [e,HLEN.out];simp⟩
 have B4:=khide (((hg1.block p (Nat.lt_trans mlt (heap_lt W3 _)) (fun e=>HRN.out e.symm)).trans (Below.heap_alloc W3 _ p mlt)).trans B3.out)
 have m4:w4.cell? ⟨p,0,none⟩=some (.slice A n cp):=by simp [World.cell?,B4.out]
 have mf4:w4.frozen? ⟨p,0,none⟩=false:=by simp [World.frozen?,B4.out]
 have HO4:=khide ho1
 have HLC:=khide hloc
 have K4:Hid (KU W w4):=K3.out.trans ((KU.below ((Below.refl _ _).alloc (Nat.le_refl _) _)).trans hku)
 have T4:Hid (Turn (b :: r.toList) W w4):=HRO.out ▸ (T3.out.trans ((Turn.of ((Below.refl _ W3).alloc (Nat.le_refl _) _)).trans (Turn.grown hg1))).mono (by simp)
 have HG4:=khide hg1
 clear ho1 hg1 hku hloc
 go_wp2
 go_ret
 have B5:(w4.setCell ⟨p,0,none⟩ (.slice A1 (n + 1) cap1)).heap[p]? = some (.cells #[.slice A1 (n + 1) cap1,.map (some b)] 140 (0,0)):=by
  have h1:=B4.out
  simp [World.setCell,Array.getElem?_modify,h1]
 have hne:(Value.slice A1 (n + 1) cap1).ownBlock ≠ some p:=own_ne_cells HO4.out.own B4.out (by decide)
 refine ⟨rfl,.slice A1 (n + 1) cap1,⟨B5,HP.out,HBB.out,?_,?_,by simp [HL.out],fun h0=>absurd h0 (by simp)⟩,?_,?_,K4.out.trans (KU.set m4 (fun x e=>by cases e))⟩
 ·exact HO4.out.turn (Turn.set _ _ _) (fun g hg=>by intro h5;rw [List.mem_singleton.1 h5] at hg;exact hne hg)
 ·refine HMP.out.keep ((Below.heap_setCell _ _ _ _ (fun e=>HNE.out e.symm)).trans ((HG4.out.block b (Nat.lt_trans HMP.out.lt (heap_lt W3 _)) (fun e=>HRB.out e.symm)).trans (Below.heap_alloc W3 _ b HMP.out.lt)))
 ·exact (T4.out.trans (Turn.set w4 ⟨p,0,none⟩ _)).mono sub3
 ·rcases HLC.out with h | ⟨g,h,h2⟩
  ·exact .inl (h.trans HRO.out)
  ·exact .inr ⟨g,h,Nat.le_trans T3.out.size (Nat.le_trans (Nat.le_succ _) h2)⟩
def QV (W:World) (r:Rat) (K:Nat) (v:Value):Prop:=∃ b A n c A' n' c',v = .agg #[.bool b,.slice A n c,.slice A' n' c']∧QA W b A n c A' n' c' r K
def EntV (W:World) (s:ByteArray) (e:Ent) (v:Value):Prop:=∃ b A n c A' n' c' b2 B m d B' m' d',
 v = .agg #[.string s,.string e.id,.int .i64 e.base,.bool b,.slice A n c,.slice A' n' c',.bool b2,.slice B m d,.slice B' m' d',.bool e.has,.int .i64 e.vec.x0,.int .i64 e.vec.x1,.int .i64 e.vec.x2,.int .i64 e.vec.x3,.int .i64 e.vec.x4,.int .i64 e.vec.x5,.int .i64 e.vec.x6,.int .i64 e.vec.x7] ∧
 QA W b A n c A' n' c' e.fac 101∧QA W b2 B m d B' m' d' e.off 101
structure Rel {α:Type} (R:ByteArray→α→Value→Prop) (l:List (ByteArray × Value)) (m:List (ByteArray × α)):Prop where
 len:l.length=m.length
 no:∀ s,lookL m s=none→lookL l s=none
 yes:∀ s e,lookL m s=some e → ∃ v,lookL l s=some v∧R s e v
section
variable {W W':World} {r:Rat} {K:Nat} {v:Value} {s:ByteArray} {e:Ent} {α:Type} {R R':ByteArray→α→Value→Prop} {l:List (ByteArray × Value)} {m:List (ByteArray × α)}
theorem QV.ku (h:QV W r K v) (k:KU W W'):QV W' r K v:=by
 obtain ⟨b,A,n,c,A',n',c',e,q⟩:=h
 exact ⟨b,A,n,c,A',n',c',e,q.ku k⟩
theorem EntV.ku (h:EntV W s e v) (k:KU W W'):EntV W' s e v:=by
 obtain ⟨b,A,n,c,A',n',c',b2,B,m,d,B',m',d',e1,q1,q2⟩:=h
 exact ⟨b,A,n,c,A',n',c',b2,B,m,d,B',m',d',e1,q1.ku k,q2.ku k⟩
theorem Rel.mono (h:Rel R l m) (hr:∀ s e v,R s e v→R' s e v):Rel R' l m:=⟨h.len,h.no,fun s e he=>by obtain ⟨v,h1,h2⟩:=h.yes s e he;exact ⟨v,h1,hr _ _ _ h2⟩⟩
theorem Rel.nil:Rel R [] []:=⟨rfl,fun _ _=>rfl,fun _ _ h=>by cases h⟩
theorem Rel.more {e:α} (h:Rel R l m) (hn:lookL m s=none) (hv:R s e v):Rel R (l ++ [(s,v)]) (m ++ [(s,e)]):=by
 refine ⟨by simp [h.len],fun t ht=>?_,fun t x hx=>?_⟩
 ·rw [lookL_append] at ht ⊢
  cases h1:lookL m t with
  | some y=>rw [h1] at ht;cases ht
  | none =>
    rw [h1] at ht
    rw [h.no t h1]
    rw [lookL_one] at ht ⊢
    by_cases e:s=t
    ·rw [if_pos e] at ht;cases ht
    ·rw [if_neg e];rfl
 ·rw [lookL_append] at hx ⊢
  cases h1:lookL m t with
  | some y =>
    rw [h1] at hx
    injection hx with hx
    subst hx
    obtain ⟨v',h2,h3⟩:=h.yes t _ h1
    exact ⟨v',by rw [h2];rfl,h3⟩
  | none =>
    rw [h1] at hx
    rw [h.no t h1]
    rw [lookL_one] at hx ⊢
    by_cases e:s=t
    ·rw [if_pos e] at hx ⊢
     injection hx with hx
     subst hx;subst e
     exact ⟨v,rfl,hv⟩
    ·rw [if_neg e] at hx;cases hx
end
structure TPl where
 v1:Value
 v2:Value
 b1:Nat
 b2:Nat
 b3:Nat
 p2:Nat
 b4:Nat
 v4:Value
def TPl.rows (x:TPl):List Nat:=x.v1.ownBlock.toList ++ x.v2.ownBlock.toList ++ x.v4.ownBlock.toList
structure TabM (base:Nat) (W:World) (p:Nat) (x:TPl) (T:Tb):Prop where
 blk:W.heap[p]? = some (.cells #[x.v1,x.v2,.map (some x.b1),.map (some x.b2),.map (some x.b3),.pointer (some ⟨x.p2,0,none⟩)] 89 (0,0))
 hp:base≤p
 hb:∀ b ∈ [x.b1,x.b2,x.b3,x.p2,x.b4],base≤b
 row1:Row W base x.v1 T.names
 row2:Row W base x.v2 T.prefs
 ents:∃ l,MapV W x.b1 l∧Rel (EntV W) l T.ents
 vals:∃ l,MapV W x.b2 l∧Rel (fun _ r v=>QV W r 4 v) l T.vals
 als:MapV W x.b3 (T.als.map fun a=>(a.1,Value.agg #[.string a.2]))
 qs:QnM base W x.p2 x.b4 x.v4 T.qv T.qn
 nd:[x.b1,x.b2,x.b3,x.b4].Nodup
 rd:x.rows.Nodup
structure LdM (base:Nat) (W:World) (g p y:Nat) (x:TPl) (T:Tb):Prop where
 blk:W.heap[g]? = some (.cells #[.pointer (some ⟨p,0,none⟩),.int .i64 (T.bases:Int),.map (some y)] 124 (0,0))
 hg:base≤g
 hy:base≤y
 tab:TabM base W p x T
 facs:∃ l,MapV W y l∧Rel (fun _ e v=>QV W e.full 11 v) l T.ents
 nd:y ∉ [x.b1,x.b2,x.b3,x.b4]
section
variable {base p g y:Nat} {W W':World} {x:TPl} {T:Tb} {S:List Nat}
theorem TabM.lt (h:TabM base W p x T):p < W.heap.size:=(Array.getElem?_eq_some_iff.1 h.blk).1
theorem LdM.lt (h:LdM base W g p y x T):g < W.heap.size:=(Array.getElem?_eq_some_iff.1 h.blk).1
theorem TabM.turn (h:TabM base W p x T) (t:Turn S W W') (k:KU W W') (h1:p ∉ S) (h2:∀ b ∈ [x.b1,x.b2,x.b3,x.p2,x.b4],b ∉ S) (h3:∀ r ∈ x.rows,r ∉ S):TabM base W' p x T:=by
 have r1:∀ r,x.v1.ownBlock=some r→r ∉ S:=fun r e=>h3 r (by unfold TPl.rows;rw [e];simp)
 have r2:∀ r,x.v2.ownBlock=some r→r ∉ S:=fun r e=>h3 r (by unfold TPl.rows;rw [e];simp)
 have r4:∀ r,x.v4.ownBlock=some r→r ∉ S:=fun r e=>h3 r (by unfold TPl.rows;rw [e];simp)
 obtain ⟨l1,m1,q1⟩:=h.ents
 obtain ⟨l2,m2,q2⟩:=h.vals
 exact ⟨(t.block p h.lt h1).trans h.blk,h.hp,h.hb,h.row1.turn t r1,h.row2.turn t r2,⟨l1,m1.turn t (h2 _ (by simp)),q1.mono fun s e v hv=>hv.ku k⟩,
  ⟨l2,m2.turn t (h2 _ (by simp)),q2.mono fun s e v hv=>hv.ku k⟩,h.als.turn t (h2 _ (by simp)),h.qs.turn t (h2 _ (by simp)) (h2 _ (by simp)) r4,h.nd,h.rd⟩
theorem TabM.up (h:TabM base W p x T) (hb:Hid (Below W.heap.size W W')):TabM base W' p x T :=
 h.turn (Turn.of hb) (KU.below hb) List.not_mem_nil (fun _ _=>List.not_mem_nil) (fun _ _=>List.not_mem_nil)
theorem TabM.al (h:TabM base W p x T) (o:Obj):TabM base (W.alloc o) p x T:=h.up ((Below.refl _ _).alloc (Nat.le_refl _) o)
theorem LdM.up (h:LdM base W g p y x T) (hb:Hid (Below W.heap.size W W')):LdM base W' g p y x T:=by
 obtain ⟨l,m,q⟩:=h.facs
 exact ⟨(hb.out.block g h.lt).trans h.blk,h.hg,h.hy,h.tab.up hb,⟨l,m.up hb,q.mono fun s e v hv=>hv.ku (KU.below hb)⟩,h.nd⟩
theorem LdM.al (h:LdM base W g p y x T) (o:Obj):LdM base (W.alloc o) g p y x T:=h.up ((Below.refl _ _).alloc (Nat.le_refl _) o)
theorem LdM.dr (h:LdM base W g p y x T):LdM base W.drew g p y x T:=h.up ((Below.refl _ _).drew)
theorem TabM.ci (h:TabM base W p x T) {i:Nat} {v:Value} (hi:[x.v1,x.v2,.map (some x.b1),.map (some x.b2),.map (some x.b3),.pointer (some ⟨x.p2,0,none⟩)][i]? = some v):W.cell? ⟨p,i,none⟩=some v:=by
 rw [cell_of_row _ _ i _ _ (0,0) h.blk]
 simpa using hi
theorem TabM.fi (h:TabM base W p x T) (i:Nat):W.frozen? ⟨p,i,none⟩=false:=by simp [World.frozen?,h.blk]
theorem TabM.c0 (h:TabM base W p x T):W.cell? ⟨p,0,none⟩=some x.v1:=h.ci rfl
theorem TabM.c1 (h:TabM base W p x T):W.cell? ⟨p,1,none⟩=some x.v2:=h.ci rfl
theorem TabM.c2 (h:TabM base W p x T):W.cell? ⟨p,2,none⟩=some (.map (some x.b1)):=h.ci rfl
theorem TabM.c3 (h:TabM base W p x T):W.cell? ⟨p,3,none⟩=some (.map (some x.b2)):=h.ci rfl
theorem TabM.c4 (h:TabM base W p x T):W.cell? ⟨p,4,none⟩=some (.map (some x.b3)):=h.ci rfl
theorem TabM.c5 (h:TabM base W p x T):W.cell? ⟨p,5,none⟩=some (.pointer (some ⟨x.p2,0,none⟩)):=h.ci rfl
theorem LdM.c0 (h:LdM base W g p y x T):W.cell? ⟨g,0,none⟩=some (.pointer (some ⟨p,0,none⟩)):=by rw [cell_of_row _ _ 0 _ _ (0,0) h.blk];rfl
theorem LdM.c1 (h:LdM base W g p y x T):W.cell? ⟨g,1,none⟩=some (.int .i64 (T.bases:Int)):=by rw [cell_of_row _ _ 1 _ _ (0,0) h.blk];rfl
theorem LdM.c2 (h:LdM base W g p y x T):W.cell? ⟨g,2,none⟩=some (.map (some y)):=by rw [cell_of_row _ _ 2 _ _ (0,0) h.blk];rfl
theorem LdM.f1 (h:LdM base W g p y x T):W.frozen? ⟨g,1,none⟩=false:=by simp [World.frozen?,h.blk]
theorem TabM.reads (h:TabM base W p x T):∃ A c B d,x.v1 = .slice A T.ents.length c∧x.v2 = .slice B T.vals.length d∧Ss W A T.names∧Ss W B T.prefs:=by
 obtain ⟨A,c,e1,_⟩:=h.row1.form
 obtain ⟨B,d,e2,_⟩:=h.row2.form
 have r1:=h.row1;have r2:=h.row2
 rw [e1] at r1;rw [e2] at r2
 refine ⟨A,c,B,d,?_,?_,r1.ss.1,r2.ss.1⟩
 ·rw [e1];simp [Tb.names]
 ·rw [e2];simp [Tb.prefs]
end
structure OkT (n:Nat) (T:Tb):Prop where
 ent:∀ s e,lookL T.ents s=some e→0 < e.full∧Bd e.full 11∧e.vec.ok=true∧Bd e.fac 101∧Bd e.off 101
 val:∀ s r,lookL T.vals s=some r→0 < r∧Bd r 4
 b8:T.bases≤8
 l1:T.ents.length≤n
 l2:T.vals.length≤n
 l3:T.als.length≤n
 l4:T.qn.length≤n
theorem measure_zero (w:World):(zeroValue 98).run Tryz.prog w = .ok (.agg #[.string ByteArray.empty,.string ByteArray.empty,.int .i64 0,.bool false,.slice none 0 0,.slice none 0 0,.bool false,.slice none 0 0,.slice none 0 0,.bool false,.int .i64 0,.int .i64 0,.int .i64 0,.int .i64 0,.int .i64 0,.int .i64 0,.int .i64 0,.int .i64 0]) w:=by kernel_rfl
theorem quot_zero (w:World):(zeroValue 51).run Tryz.prog w = .ok (.agg #[.bool false,.slice none 0 0,.slice none 0 0]) w:=by kernel_rfl
theorem alias_zero (w:World):(zeroValue 82).run Tryz.prog w = .ok (.agg #[.string ByteArray.empty]) w:=by kernel_rfl
end Go.Proofs.YtfflmmbhpchloaaGreatDoor
end
