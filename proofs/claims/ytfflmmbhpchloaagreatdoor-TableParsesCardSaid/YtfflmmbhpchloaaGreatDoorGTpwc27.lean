/- Each theorem here says its own conditions. -/
import Derived.Test.YtfflmmbhpchloaaGreatDoorGTpwc26
import Derived.RangeFuncNested
import Derived.RangeFuncBound
import Derived.RangeFuncCalls
import Derived.RangeFuncLeaves
import Derived.OwnWalkIn
import Derived.TacticsInMore
import Derived.LoopNIn
import Derived.LoopIn
set_option maxRecDepth 100000
set_option maxHeartbeats 16000000
section
open Go.RowKit
open Go.Proofs.YtfflmmbhpchloaaGreatDoor.V
namespace Go.Proofs.YtfflmmbhpchloaaGreatDoor
def TPl.all (x:TPl) (g p y:Nat):List Nat:=p :: g :: y :: x.b1 :: x.b2 :: x.b3 :: x.p2 :: x.b4 :: x.rows
section
variable {base p g y:Nat} {W W':World} {x:TPl} {T:Tb}
theorem TPl.row1 {r:Nat} (h:x.v1.ownBlock=some r):r ∈ x.rows:=by unfold TPl.rows;rw [h];simp
theorem TPl.row2 {r:Nat} (h:x.v2.ownBlock=some r):r ∈ x.rows:=by unfold TPl.rows;rw [h];simp
theorem TPl.row4 {r:Nat} (h:x.v4.ownBlock=some r):r ∈ x.rows:=by unfold TPl.rows;rw [h];simp
theorem row_at {v:Value} {xs:List ByteArray} (h:Row W base v xs) {r:Nat} (hr:v.ownBlock=some r):base≤r ∧ ∃ cs,W.heap[r]? = some (.cells cs 9 (0,0)):=by
 rcases h.own.2 with ⟨h1,_⟩ | ⟨g,cap,cur,h1,h2,h3,_⟩
 ·rw [h1] at hr;cases hr
 ·rw [h1] at hr;injection hr with hr
  have hh:g=r:=hr
  subst hh
  exact ⟨h2,_,h3⟩
theorem TabM.rows_at (h:TabM base W p x T):∀ r ∈ x.rows,base≤r ∧ ∃ cs,W.heap[r]? = some (.cells cs 9 (0,0)):=by
 intro r hr
 unfold TPl.rows at hr
 rcases List.mem_append.1 hr with hr | hr
 ·rcases List.mem_append.1 hr with hr | hr
  ·exact row_at h.row1 (by simpa using hr)
  ·exact row_at h.row2 (by simpa using hr)
 ·exact row_at h.qs.row (by simpa using hr)
theorem LdM.all_lt (h:LdM base W g p y x T):∀ k ∈ x.all g p y,base≤k∧k < W.heap.size:=by
 intro k hk
 unfold TPl.all at hk
 simp only [List.mem_cons] at hk
 obtain ⟨l1,m1,_⟩:=h.tab.ents
 obtain ⟨l2,m2,_⟩:=h.tab.vals
 obtain ⟨l3,m3,_⟩:=h.facs
 have hb:=h.tab.hb
 rcases hk with rfl | rfl | rfl | rfl | rfl | rfl | rfl | rfl | hk
 ·exact ⟨h.tab.hp,h.tab.lt⟩
 ·exact ⟨h.hg,h.lt⟩
 ·exact ⟨h.hy,m3.lt⟩
 ·exact ⟨hb _ (by simp),m1.lt⟩
 ·exact ⟨hb _ (by simp),m2.lt⟩
 ·exact ⟨hb _ (by simp),h.tab.als.lt⟩
 ·exact ⟨hb _ (by simp),h.tab.qs.lt⟩
 ·exact ⟨hb _ (by simp),h.tab.qs.map.lt⟩
 ·obtain ⟨h1,cs,h2⟩:=h.tab.rows_at k hk
  exact ⟨h1,(Array.getElem?_eq_some_iff.1 h2).1⟩
structure Apart (x:TPl) (g p y:Nat):Prop where
 gp:g ≠ p
 g2:g ≠ x.p2
 p2:p ≠ x.p2
 mg:∀ b ∈ [y,x.b1,x.b2,x.b3,x.b4],b ≠ g∧b ≠ p∧b ≠ x.p2∧b ∉ x.rows
 rg:g ∉ x.rows∧p ∉ x.rows∧x.p2 ∉ x.rows
theorem mapV_ne {l:List (ByteArray × Value)} {b q:Nat} {cs:Array Value} {t:TypeId} {fr:Nat × Nat} (h:MapV W b l) (hq:W.heap[q]? = some (.cells cs t fr)):b ≠ q:=fun e=>h.not_cells (e ▸ hq)
theorem LdM.apart (h:LdM base W g p y x T):Apart x g p y:=by
 obtain ⟨l1,m1,_⟩:=h.tab.ents
 obtain ⟨l2,m2,_⟩:=h.tab.vals
 obtain ⟨l3,m3,_⟩:=h.facs
 have hrw:=h.tab.rows_at
 have ne:∀ {a c:Nat} {cs cs':Array Value} {t t':TypeId},W.heap[a]? = some (.cells cs t (0,0))→W.heap[c]? = some (.cells cs' t' (0,0))→t ≠ t'→a ≠ c:=fun h1 h2 h3 e=>by
  subst e;rw [h1] at h2;injection h2 with h2;injection h2 with _ h2 _;exact h3 h2
 refine ⟨ne h.blk h.tab.blk (by decide),ne h.blk h.tab.qs.blk (by decide),ne h.tab.blk h.tab.qs.blk (by decide),fun b hb=>?_,?_,?_,?_⟩
 ·have key:(∀ q cs t fr,W.heap[q]? = some (.cells cs t fr)→b ≠ q)→b ≠ g∧b ≠ p∧b ≠ x.p2∧b ∉ x.rows:=fun k =>
   ⟨k _ _ _ _ h.blk,k _ _ _ _ h.tab.blk,k _ _ _ _ h.tab.qs.blk,fun hm=>by obtain ⟨_,cs,h2⟩:=hrw b hm;exact k _ _ _ _ h2 rfl⟩
  simp only [List.mem_cons,List.mem_nil_iff,or_false] at hb
  rcases hb with rfl | rfl | rfl | rfl | rfl
  ·exact key fun q cs t fr hq=>mapV_ne m3 hq
  ·exact key fun q cs t fr hq=>mapV_ne m1 hq
  ·exact key fun q cs t fr hq=>mapV_ne m2 hq
  ·exact key fun q cs t fr hq=>mapV_ne h.tab.als hq
  ·exact key fun q cs t fr hq e=>h.tab.qs.map.not_cells (e ▸ hq)
 ·intro hm;obtain ⟨_,cs,h2⟩:=hrw g hm;exact ne h.blk h2 (by decide) rfl
 ·intro hm;obtain ⟨_,cs,h2⟩:=hrw p hm;exact ne h.tab.blk h2 (by decide) rfl
 ·intro hm;obtain ⟨_,cs,h2⟩:=hrw _ hm;exact ne h.tab.qs.blk h2 (by decide) rfl
def Stp (base:Nat) (W:World) (g p y:Nat) (x:TPl) (T':Tb) (w':World):Prop:=∃ x',LdM base w' g p y x' T'∧Turn (x.all g p y) W w'∧KU W w' ∧ ∀ k ∈ x'.all g p y,k ∈ x.all g p y ∨ W.heap.size≤k
theorem put_end {s:ByteArray} {e:Ent} {v':Value} {w6:World} (h:LdM base W g p y x T)
 (T6:Turn ((p :: x.v1.ownBlock.toList ++ [x.b1]) ++ [y]) W w6) (K6:KU W w6)
 (B6:w6.heap[p]? = some (.cells #[v',x.v2,.map (some x.b1),.map (some x.b2),.map (some x.b3),.pointer (some ⟨x.p2,0,none⟩)] 89 (0,0)))
 (R6:Row w6 base v' (T.names ++ [s])) (hv':v'.ownBlock=x.v1.ownBlock ∨ ∃ g,v'.ownBlock=some g∧W.heap.size≤g)
 (E6:∃ l,MapV w6 x.b1 l∧Rel (EntV w6) l (T.ents ++ [(s,e)])) (F6:∃ l,MapV w6 y l∧Rel (fun _ e v=>QV w6 e.full 11 v) l (T.ents ++ [(s,e)])) :
 Stp base W g p y x { T with ents:=T.ents ++ [(s,e)] } w6:=by
 have ap:=h.apart
 have hnd:=h.tab.nd
 have hrd:=h.tab.rd
 have hyn:=h.nd
 simp only [List.nodup_cons,List.mem_cons,List.mem_nil_iff,or_false,not_or,List.not_mem_nil,List.nodup_nil,not_false_eq_true,and_true] at hnd hyn
 unfold TPl.rows at hrd
 have hm:∀ k,k ≠ p→k ≠ x.b1→k ≠ y→x.v1.ownBlock ≠ some k→k ∉ (p :: x.v1.ownBlock.toList ++ [x.b1]) ++ [y]:=by
  intro k h1 h2 h3 h4 h5
  simp only [List.mem_append,List.mem_cons,List.mem_nil_iff,or_false,List.not_mem_nil,Option.mem_toList] at h5
  rcases h5 with (h5 | h5) | h5
  ·rcases h5 with h5 | h5
   ·exact h1 h5
   ·exact h4 h5
  ·exact h2 h5
  ·exact h3 h5
 have hrow:∀ k,k ∈ x.rows→x.v1.ownBlock ≠ some k→k ∉ (p :: x.v1.ownBlock.toList ++ [x.b1]) ++ [y]:=fun k hk h1 =>
  hm k (fun e=>ap.rg.2.1 (e ▸ hk)) (fun e=>(ap.mg x.b1 (by simp)).2.2.2 (e ▸ hk)) (fun e=>(ap.mg y (by simp)).2.2.2 (e ▸ hk)) h1
 have hmap:∀ k,k ∈ [y,x.b1,x.b2,x.b3,x.b4]→k ≠ x.b1→k ≠ y→k ∉ (p :: x.v1.ownBlock.toList ++ [x.b1]) ++ [y]:=fun k hk h1 h2 =>
  hm k (ap.mg k hk).2.1 h1 h2 (fun e=>(ap.mg k hk).2.2.2 (TPl.row1 e))
 have d12:∀ k,x.v2.ownBlock=some k→x.v1.ownBlock ≠ some k:=fun k h2 h1=>by
  rw [h1,h2] at hrd;simp at hrd
 have d14:∀ k,x.v4.ownBlock=some k→x.v1.ownBlock ≠ some k:=fun k h2 h1=>by
  rw [h1,h2] at hrd;simp at hrd
 obtain ⟨l2,m2,r2⟩:=h.tab.vals
 refine ⟨{ x with v1:=v' },⟨(T6.block g h.lt (hm g ap.gp (ap.mg x.b1 (by simp)).1.symm (ap.mg y (by simp)).1.symm (fun e=>ap.rg.1 (TPl.row1 e)))).trans h.blk,h.hg,h.hy,
  ⟨B6,h.tab.hp,h.tab.hb,?_,h.tab.row2.turn T6 (fun k hk=>hrow k (TPl.row2 hk) (d12 k hk)),E6,
    ⟨l2,m2.turn T6 (hmap _ (by simp) (fun e=>hnd.1.1 e.symm) (fun e=>hyn.2.1 e.symm)),r2.mono fun s e v hv=>hv.ku K6⟩,h.tab.als.turn T6 (hmap _ (by simp) (fun e=>hnd.1.2.1 e.symm) (fun e=>hyn.2.2.1 e.symm)),
    h.tab.qs.turn T6 (hm _ ap.p2.symm (ap.mg x.b1 (by simp)).2.2.1.symm (ap.mg y (by simp)).2.2.1.symm (fun e=>ap.rg.2.2 (TPl.row1 e))) (hmap _ (by simp) (fun e=>hnd.1.2.2 e.symm) (fun e=>hyn.2.2.2 e.symm)) (fun k hk=>hrow k (TPl.row4 hk) (d14 k hk)),h.tab.nd,?_⟩,F6,h.nd⟩,T6.mono ?_,K6,?_⟩
 ·have e1:Tb.names { T with ents:=T.ents ++ [(s,e)] }=T.names ++ [s]:=by simp [Tb.names]
  rw [e1];exact R6
 ·unfold TPl.rows
  rcases hv' with e1 | ⟨k,e1,hk⟩
  ·dsimp only;rw [e1];exact hrd
  ·dsimp only
   rw [e1]
   rw [List.append_assoc] at hrd ⊢
   have h2:=(List.nodup_append.1 hrd).2.1
   have h3:k ∉ x.v2.ownBlock.toList ++ x.v4.ownBlock.toList:=fun hm=>by
    have h4:k ∈ x.rows:=by unfold TPl.rows;rw [List.append_assoc];exact List.mem_append_right _ hm
    have h5:=(h.all_lt k (by unfold TPl.all;simp [h4])).2
    omega
   exact List.nodup_cons.2 ⟨h3,h2⟩
 ·intro k hk
  unfold TPl.all
  simp only [List.mem_append,List.mem_cons,List.mem_nil_iff,or_false,List.not_mem_nil,Option.mem_toList] at hk ⊢
  rcases hk with (hk | hk) | hk
  ·rcases hk with hk | hk
   ·exact .inl hk
   ·have:=TPl.row1 hk;simp [this]
  ·simp [hk]
  ·simp [hk]
 ·intro k hk
  unfold TPl.all at hk ⊢
  simp only [List.mem_cons] at hk ⊢
  have key:k ∈ TPl.rows { x with v1:=v' }→k ∈ x.rows ∨ W.heap.size≤k:=fun hk=>by
   unfold TPl.rows at hk ⊢
   dsimp only at hk
   rcases hv' with e1 | ⟨j,e1,hj⟩
   ·rw [e1] at hk;exact .inl hk
   ·rw [e1,List.append_assoc] at hk
    rcases List.mem_append.1 hk with hk | hk
    ·have:j=k:=Option.some.inj (Option.mem_toList.1 hk)
     exact .inr (this ▸ hj)
    ·rw [List.append_assoc];exact .inl (List.mem_append_right _ hk)
  rcases hk with hk | hk | hk | hk | hk | hk | hk | hk | hk
  ·simp [hk]
  ·simp [hk]
  ·simp [hk]
  ·simp [hk]
  ·simp [hk]
  ·simp [hk]
  ·simp [hk]
  ·simp [hk]
  ·rcases key hk with h1 | h1
   ·simp [h1]
   ·exact .inr h1
end
theorem dbase_0 (w:World):Calls Tryz.prog 120 #[.int .i64 0] w (RetVV w (⟨1,0,0,0,0,0,0,0⟩:V8) true):=by
 go_enter Tryz.func120,Tryz.ntmps120
 go_wp2
 refine vname_end ?_
 intro W4 hW4
 have HF:At W4 w.heap.size (⟨1,0,0,0,0,0,0,0⟩:V8).c:=by rw [hW4];exact (at_new0 w (⟨1,0,0,0,0,0,0,0⟩:V8).c _).al _
 have BF:Bel w W4:=by rw [hW4];exact (((Bel.refl w).al _).al _)
 clear hW4
 obtain ⟨r0,r1,r2,r3,r4,r5,r6,r7⟩:=HF.v8
 refine bodyPost_ret (v:=.tuple #[(⟨1,0,0,0,0,0,0,0⟩:V8).v,.bool true]) (by simp [results,Tryz.results120,go_sem,r0,r1,r2,r3,r4,r5,r6,r7]) rfl ⟨rfl,BF⟩
theorem dbase_1 (w:World):Calls Tryz.prog 120 #[.int .i64 1] w (RetVV w (⟨0,1,0,0,0,0,0,0⟩:V8) true):=by
 go_enter Tryz.func120,Tryz.ntmps120
 go_wp2
 refine vname_end ?_
 intro W4 hW4
 have HF:At W4 w.heap.size (⟨0,1,0,0,0,0,0,0⟩:V8).c:=by rw [hW4];exact (at_new0 w (⟨0,1,0,0,0,0,0,0⟩:V8).c _).al _
 have BF:Bel w W4:=by rw [hW4];exact (((Bel.refl w).al _).al _)
 clear hW4
 obtain ⟨r0,r1,r2,r3,r4,r5,r6,r7⟩:=HF.v8
 refine bodyPost_ret (v:=.tuple #[(⟨0,1,0,0,0,0,0,0⟩:V8).v,.bool true]) (by simp [results,Tryz.results120,go_sem,r0,r1,r2,r3,r4,r5,r6,r7]) rfl ⟨rfl,BF⟩
theorem dbase_2 (w:World):Calls Tryz.prog 120 #[.int .i64 2] w (RetVV w (⟨0,0,1,0,0,0,0,0⟩:V8) true):=by
 go_enter Tryz.func120,Tryz.ntmps120
 go_wp2
 refine vname_end ?_
 intro W4 hW4
 have HF:At W4 w.heap.size (⟨0,0,1,0,0,0,0,0⟩:V8).c:=by rw [hW4];exact (at_new0 w (⟨0,0,1,0,0,0,0,0⟩:V8).c _).al _
 have BF:Bel w W4:=by rw [hW4];exact (((Bel.refl w).al _).al _)
 clear hW4
 obtain ⟨r0,r1,r2,r3,r4,r5,r6,r7⟩:=HF.v8
 refine bodyPost_ret (v:=.tuple #[(⟨0,0,1,0,0,0,0,0⟩:V8).v,.bool true]) (by simp [results,Tryz.results120,go_sem,r0,r1,r2,r3,r4,r5,r6,r7]) rfl ⟨rfl,BF⟩
theorem dbase_3 (w:World):Calls Tryz.prog 120 #[.int .i64 3] w (RetVV w (⟨0,0,0,1,0,0,0,0⟩:V8) true):=by
 go_enter Tryz.func120,Tryz.ntmps120
 go_wp2
 refine vname_end ?_
 intro W4 hW4
 have HF:At W4 w.heap.size (⟨0,0,0,1,0,0,0,0⟩:V8).c:=by rw [hW4];exact (at_new0 w (⟨0,0,0,1,0,0,0,0⟩:V8).c _).al _
 have BF:Bel w W4:=by rw [hW4];exact (((Bel.refl w).al _).al _)
 clear hW4
 obtain ⟨r0,r1,r2,r3,r4,r5,r6,r7⟩:=HF.v8
 refine bodyPost_ret (v:=.tuple #[(⟨0,0,0,1,0,0,0,0⟩:V8).v,.bool true]) (by simp [results,Tryz.results120,go_sem,r0,r1,r2,r3,r4,r5,r6,r7]) rfl ⟨rfl,BF⟩
theorem dbase_4 (w:World):Calls Tryz.prog 120 #[.int .i64 4] w (RetVV w (⟨0,0,0,0,1,0,0,0⟩:V8) true):=by
 go_enter Tryz.func120,Tryz.ntmps120
 go_wp2
 refine vname_end ?_
 intro W4 hW4
 have HF:At W4 w.heap.size (⟨0,0,0,0,1,0,0,0⟩:V8).c:=by rw [hW4];exact (at_new0 w (⟨0,0,0,0,1,0,0,0⟩:V8).c _).al _
 have BF:Bel w W4:=by rw [hW4];exact (((Bel.refl w).al _).al _)
 clear hW4
 obtain ⟨r0,r1,r2,r3,r4,r5,r6,r7⟩:=HF.v8
 refine bodyPost_ret (v:=.tuple #[(⟨0,0,0,0,1,0,0,0⟩:V8).v,.bool true]) (by simp [results,Tryz.results120,go_sem,r0,r1,r2,r3,r4,r5,r6,r7]) rfl ⟨rfl,BF⟩
theorem dbase_5 (w:World):Calls Tryz.prog 120 #[.int .i64 5] w (RetVV w (⟨0,0,0,0,0,1,0,0⟩:V8) true):=by
 go_enter Tryz.func120,Tryz.ntmps120
 go_wp2
 refine vname_end ?_
 intro W4 hW4
 have HF:At W4 w.heap.size (⟨0,0,0,0,0,1,0,0⟩:V8).c:=by rw [hW4];exact (at_new0 w (⟨0,0,0,0,0,1,0,0⟩:V8).c _).al _
 have BF:Bel w W4:=by rw [hW4];exact (((Bel.refl w).al _).al _)
 clear hW4
 obtain ⟨r0,r1,r2,r3,r4,r5,r6,r7⟩:=HF.v8
 refine bodyPost_ret (v:=.tuple #[(⟨0,0,0,0,0,1,0,0⟩:V8).v,.bool true]) (by simp [results,Tryz.results120,go_sem,r0,r1,r2,r3,r4,r5,r6,r7]) rfl ⟨rfl,BF⟩
theorem dbase_6 (w:World):Calls Tryz.prog 120 #[.int .i64 6] w (RetVV w (⟨0,0,0,0,0,0,1,0⟩:V8) true):=by
 go_enter Tryz.func120,Tryz.ntmps120
 go_wp2
 refine vname_end ?_
 intro W4 hW4
 have HF:At W4 w.heap.size (⟨0,0,0,0,0,0,1,0⟩:V8).c:=by rw [hW4];exact (at_new0 w (⟨0,0,0,0,0,0,1,0⟩:V8).c _).al _
 have BF:Bel w W4:=by rw [hW4];exact (((Bel.refl w).al _).al _)
 clear hW4
 obtain ⟨r0,r1,r2,r3,r4,r5,r6,r7⟩:=HF.v8
 refine bodyPost_ret (v:=.tuple #[(⟨0,0,0,0,0,0,1,0⟩:V8).v,.bool true]) (by simp [results,Tryz.results120,go_sem,r0,r1,r2,r3,r4,r5,r6,r7]) rfl ⟨rfl,BF⟩
theorem dbase_7 (w:World):Calls Tryz.prog 120 #[.int .i64 7] w (RetVV w (⟨0,0,0,0,0,0,0,1⟩:V8) true):=by
 go_enter Tryz.func120,Tryz.ntmps120
 go_wp2
 refine vname_end ?_
 intro W4 hW4
 have HF:At W4 w.heap.size (⟨0,0,0,0,0,0,0,1⟩:V8).c:=by rw [hW4];exact (at_new0 w (⟨0,0,0,0,0,0,0,1⟩:V8).c _).al _
 have BF:Bel w W4:=by rw [hW4];exact (((Bel.refl w).al _).al _)
 clear hW4
 obtain ⟨r0,r1,r2,r3,r4,r5,r6,r7⟩:=HF.v8
 refine bodyPost_ret (v:=.tuple #[(⟨0,0,0,0,0,0,0,1⟩:V8).v,.bool true]) (by simp [results,Tryz.results120,go_sem,r0,r1,r2,r3,r4,r5,r6,r7]) rfl ⟨rfl,BF⟩
theorem unitV_at:unitV 0=⟨1,0,0,0,0,0,0,0⟩∧unitV 1=⟨0,1,0,0,0,0,0,0⟩∧unitV 2=⟨0,0,1,0,0,0,0,0⟩∧unitV 3=⟨0,0,0,1,0,0,0,0⟩ ∧
 unitV 4=⟨0,0,0,0,1,0,0,0⟩∧unitV 5=⟨0,0,0,0,0,1,0,0⟩∧unitV 6=⟨0,0,0,0,0,0,1,0⟩∧unitV 7=⟨0,0,0,0,0,0,0,1⟩:=⟨rfl,rfl,rfl,rfl,rfl,rfl,rfl,rfl⟩
theorem dbase_h {k:Nat} (hk:k < 8) (w:World):Calls Tryz.prog 120 #[.int .i64 (k:Int)] w (RetVV w (unitV k) true):=by
 obtain ⟨e0,e1,e2,e3,e4,e5,e6,e7⟩:=unitV_at
 match k,hk with
 | 0,_=>rw [e0];exact dbase_0 w
 | 1,_=>rw [e1];exact dbase_1 w
 | 2,_=>rw [e2];exact dbase_2 w
 | 3,_=>rw [e3];exact dbase_3 w
 | 4,_=>rw [e4];exact dbase_4 w
 | 5,_=>rw [e5];exact dbase_5 w
 | 6,_=>rw [e6];exact dbase_6 w
 | 7,_=>rw [e7];exact dbase_7 w
theorem unitV_ok {k:Nat} (hk:k < 8):(unitV k).ok=true∧(unitV k).wf:=by
 have h1:∀ k,k < 8→(unitV k).ok=true:=by decide +kernel
 have h2:∀ k,k < 8 → ∀ j,j < 8→(Lit.int .i64 ((unitV k).at_ j)).wf=true:=by decide +kernel
 exact ⟨h1 k hk,h2 k hk⟩
theorem ok_wf {v:V8} (h:v.ok=true):v.wf:=by
 intro k hk
 have hb:∀ i:Int,-100≤i→i≤100→(Lit.int .i64 i).wf=true:=fun i h1 h2=>by
  have h3:∀ n:Nat,n≤200→(Lit.int .i64 ((n:Int) - 100)).wf=true:=by decide +kernel
  have h4:=h3 (i + 100).toNat (by omega)
  have e:(((i + 100).toNat:Nat):Int) - 100=i:=by omega
  rwa [e] at h4
 exact hb _ (V8.ok_iff.1 h k hk).1 (V8.ok_iff.1 h k hk).2
theorem vecGo_ok {T:Tb}:∀ {l:List (AL × Int)} {a v:V8},a.ok=true→T.vecGo l a=some v→v.ok=true
 | [],a,v,ha,h=>by injection h with h;exact h ▸ ha
 | x :: r,a,v,ha,h=>by
   unfold Tb.vecGo at h
   cases hl:lookL T.ents x.1.2.1 with
   | none=>rw [hl] at h;cases h
   | some m =>
     rw [hl] at h
     dsimp only at h
     split at h
     ·split at h
      ·exact vecGo_ok (V8.addR_ok _ _) h
      ·cases h
     ·cases h
theorem vec_ok {T:Tb} {p:List AL × List AL} {v:V8} (h:T.vec p=some v):v.ok=true∧v.wf:=by
 have h1:=vecGo_ok (show V8.z.ok=true by decide) h
 exact ⟨h1,ok_wf h1⟩
section
variable {n:Nat} {T T':Tb} {s id q:ByteArray}
theorem OkT.more (h:OkT n T):OkT (n + 1) T:=⟨h.ent,h.val,h.b8,Nat.le_succ_of_le h.l1,Nat.le_succ_of_le h.l2,Nat.le_succ_of_le h.l3,Nat.le_succ_of_le h.l4⟩
theorem okT_alias (h:OkT n T) (hr:T.addAlias s id = .ok T'):OkT (n + 1) T':=by
 unfold Tb.addAlias at hr
 split at hr
 ·cases hr
 ·cases hp:T.part id with
  | error v=>rw [hp] at hr;cases hr
  | ok p =>
    rw [hp] at hr
    injection hr with hr
    subst hr
    exact ⟨h.ent,h.val,h.b8,Nat.le_succ_of_le h.l1,Nat.le_succ_of_le h.l2,by simpa using h.l3,Nat.le_succ_of_le h.l4⟩
theorem okT_quan (h:OkT n T) (hr:T.addQuantity s id = .ok T'):OkT (n + 1) T':=by
 unfold Tb.addQuantity at hr
 split at hr
 ·cases hr
 ·cases hp:T.part id with
  | error v=>rw [hp] at hr;cases hr
  | ok p =>
    rw [hp] at hr
    dsimp only at hr
    cases hv:T.vec (p.1,p.2.1) with
    | none=>rw [hv] at hr;cases hr
    | some v =>
      rw [hv] at hr
      dsimp only at hr
      split at hr
      ·cases hr
      ·injection hr with hr
       subst hr
       exact ⟨h.ent,h.val,h.b8,Nat.le_succ_of_le h.l1,Nat.le_succ_of_le h.l2,Nat.le_succ_of_le h.l3,by simpa using h.l4⟩
theorem ent_more {e:Ent} (h:∀ t x,lookL T.ents t=some x→0 < x.full∧Bd x.full 11∧x.vec.ok=true∧Bd x.fac 101∧Bd x.off 101) (he:0 < e.full∧Bd e.full 11∧e.vec.ok=true∧Bd e.fac 101∧Bd e.off 101) :
 ∀ t x,lookL (T.ents ++ [(s,e)]) t=some x→0 < x.full∧Bd x.full 11∧x.vec.ok=true∧Bd x.fac 101∧Bd x.off 101:=by
 intro t x hx
 rw [lookL_append] at hx
 cases h1:lookL T.ents t with
 | some z=>rw [h1] at hx;injection hx with hx;subst hx;exact h t _ h1
 | none =>
   rw [h1,lookL_one] at hx
   by_cases e1:s=t
   ·rw [if_pos e1] at hx;injection hx with hx;subst hx;exact he
   ·rw [if_neg e1] at hx;cases hx
theorem bds:(0:Rat) < 1∧Bd 1 11∧Bd 1 101∧Bd 0 101:=⟨by decide,⟨by decide +kernel,by decide +kernel⟩,⟨by decide +kernel,by decide +kernel⟩,⟨by decide +kernel,by decide +kernel⟩⟩
theorem okT_base (h:OkT n T) (hr:T.addBase s q = .ok T'):OkT (n + 1) T':=by
 unfold Tb.addBase at hr
 split at hr
 ·cases hr
 ·split at hr
  ·cases hr
  ·split at hr
   ·cases hr
   ·rename_i h8
    split at hr
    ·cases hr
    ·injection hr with hr
     subst hr
     have hb:=h.b8
     refine ⟨ent_more h.ent ⟨bds.1,bds.2.1,(unitV_ok (by omega)).1,bds.2.2.1,bds.2.2.2⟩,h.val,by show T.bases + 1≤8;omega,by simpa using h.l1,Nat.le_succ_of_le h.l2,Nat.le_succ_of_le h.l3,by simpa using h.l4⟩
end
end Go.Proofs.YtfflmmbhpchloaaGreatDoor
end
section
namespace Go.Proofs.YtfflmmbhpchloaaGreatDoor
open Go.RowKit Go.Shelf
def SeqM (F:Fence) (n:Nat) (P:Program) (g:Nat) (lb:Array Value) (Rd:World→Prop) (xs:List (Array Value)):Prop :=
 ∀ (l:Nat) (J Jx:Nat→World→Prop) (W:World),(∀ k V,J k V→Rd V)→(∀ k V cs t,J k V→J k (V.alloc (.cells cs t))) →
  (∀ k x V,J k V→xs[k]? = some x→YieldAt F (n - 1) P l x V fun e V'=>(e = .returned (.bool true)∧J (k + 1) V') ∨ (e = .returned (.bool false)∧Jx (k + 1) V')) →
  J 0 W→CallsIn F n P g (#[.func (.yield l) #[] #[]] ++ lb) W fun e W'=>(∃ v,e = .returned v)∧(J xs.length W' ∨ ∃ k,k≤xs.length∧Jx k W')
def MPost (I:Nat→World→Prop) (Ix:Code→Nat→World→Prop) (k:Nat) (V:World):Exit→Act→World→Prop
 | .normal,_,V'=>KeepsOthers V V'∧I k V'
 | .ret,_,V'=>KeepsOthers V V'∧Ix .ret k V'
 | .exit id,_,V'=>KeepsOthers V V'∧Ix (.exit id) k V'
 | .goto t,_,V'=>KeepsOthers V V'∧Ix (.goto t) k V'
 | .panic _,_,_=>False
 | .outgrown,_,_=>False
def LiveM (d:Nat) (r:Loop) (V:World):Prop:=V.heap[d + 1]? = some (.loop r)∧V.heap[d]? = some (.deferred (some []))
section
variable {d:Nat} {r r':Loop} {V V':World} {P:Program} {I:Nat→World→Prop} {k:Nat}
theorem LiveM.lt (h:LiveM d r V):d + 1 < V.heap.size:=(Array.getElem?_eq_some_iff.1 h.1).1
theorem LiveM.put (h:LiveM d r V) (r':Loop):LiveM d r' (V.putObj (d + 1) (.loop r')):=⟨World.putObj_heap_same h.lt,(World.putObj_heap_other (by omega)).trans h.2⟩
theorem LiveM.keep (h:LiveM d r V) (hk:KeepsOthers V V'):LiveM d r V':=⟨hk.same _ _ h.1 rfl,hk.same _ _ h.2 rfl⟩
theorem OwnFrom.liveM {w:World} (hI:OwnFrom d I) (h:LiveM d r V) (hi:I k V) (r':Loop):I k (V.putObj (d + 1) (.loop r')):=OwnFrom.putObj hI _ hi (by omega) h.1 rfl
theorem LiveM.fin (h:LiveM d { r with state:=.busy } V) (jump:Option Code) :
 (Instr.endRound (d + 1) jump).run P V = .ok (.bool jump.isNone) (V.putObj (d + 1) (.loop { r with state:=if jump.isNone then .ready else .done,pending:=jump })):=by
 have h2:=run_endRound (P:=P) (r:={ r with state:=.busy }) jump h.1
 exact h2
end
theorem At.own {W W':World} {p:Nat} {vs:List Value} {row:Option Nat} (h:At W p vs) (hg:W.grownBy W' row) (hne:∀ r,row=some r→p ≠ r):At W' p vs:=by
 have e:W'.heap[p]? = W.heap[p]?:=hg.block p h.lt (fun e=>hne p e.symm rfl)
 exact ⟨Nat.lt_of_lt_of_le h.lt hg.size,fun i v hv=>⟨(World.cell?_of_block (a:=⟨p,i,none⟩) e).trans (h.all i v hv).1,(World.frozen?_of_block (a:=⟨p,i,none⟩) e).trans (h.all i v hv).2⟩⟩
variable {F:Fence} {n:Nat} {P:Program}
theorem wpIn_range_mk {g:Operand} {ps:Array Tmp} {assign body:Code} {Q:Exit→Act→World→Prop} {a:Act} {w:World}
 (hro:F.round=none) (h1:1≤n) {gf:Nat} {lb:Array Value} (hg:a.eval g = .func (.func gf) #[] lb) (hFg:F.fn gf) (eg:∀ args w,(callFunc gf args).run P w = .ok (.enter gf args) w)
 {Rd:World→Prop} {xs:List (Array Value)} (hseq:SeqM F (n - 1) P gf lb Rd xs) (hps:∀ (k:Nat) (x:Array Value),xs[k]? = some x→ps.size=x.size)
 (I:Nat→World→Prop) (Ix:Code→Nat→World→Prop) (hI:OwnFrom w.heap.size I) (hIx:∀ c,OwnFrom w.heap.size (Ix c)) (hRd:∀ k V,I k V→Rd V) (h0:I 0 w) (cs:Array Value→List Value) (ty:TypeId) (a₁:Array Value→Nat→Act)
 (hassign:∀ (l k:Nat) (x:Array Value) (V:World) (K:Act→World→Prop),xs[k]? = some x→K (a₁ x V.heap.size) (V.alloc (.cells (cs x).toArray ty)) →
   assign.wpIn (F.inRound l) (n - 1 - 1) P (Exit.then K (fun _ _ _=>False)) { tmps:=(ps.zip x).foldl (fun t (p,v)=>t.setIfInBounds p v) a.tmps,defers:=[] } V)
 (hbody:∀ (l k:Nat) (x:Array Value) (V:World) (b:Nat),I k V→xs[k]? = some x→w.heap.size≤b→At V b (cs x)→body.wpIn (F.inRound l) (n - 1 - 1) P (MPost I Ix (k + 1) V) (a₁ x b) V)
 (hdone:∀ (D:Nat) (V:World),w.heap.size≤D→I xs.length V→V.heap[D]? = some (.deferred (some []))→Q .normal { a with defers:={ target:=.collected D,args:=#[] } :: a.defers } V)
 (hstop:∀ (D:Nat) (c:Code) (k:Nat) (V:World),w.heap.size≤D→Ix c k V→V.heap[D]? = some (.deferred (some []))→c.wpIn F n P Q { a with defers:={ target:=.collected D,args:=#[] } :: a.defers } V) :
 (Code.rangeFunc g ps assign body).wpIn F n P Q a w:=by
 refine wpIn_rangeFunc fun fn hfn=>?_
 rw [hro]
 obtain ⟨r0,hr0⟩:∃ r0:Loop,r0={ state:=.ready,pending:=none,fn,tmps:=a.tmps,params:=ps,assign,body,defers:=w.heap.size }:=⟨_,rfl⟩
 obtain ⟨W1,hW1⟩:∃ W1,W1=(w.alloc (.deferred (some []))).alloc (.loop r0):=⟨_,rfl⟩
 have hl1:LiveM w.heap.size r0 W1:=by
  rw [hW1]
  refine ⟨?_,(Below.heap_alloc _ _ _ (by simp)).trans (World.alloc_heap_new w _)⟩
  have:=World.alloc_heap_new (w.alloc (.deferred (some []))) (.loop r0)
  rwa [World.size_alloc] at this
 have hI1:I 0 W1:=by rw [hW1];exact hI.alloc _ (hI.alloc _ h0)
 refine ⟨w.heap.size + 1,[{ target:=.collected w.heap.size,args:=#[] }],W1,{ target:=.fn (.func gf) lb,args:=#[.func (.yield (w.heap.size + 1)) #[] #[]] },W1,gf,
  #[.func (.yield (w.heap.size + 1)) #[] #[]] ++ lb,W1,?_,?_,?_,?_,fun _=>h1,?_⟩
 ·rw [hW1,hr0];exact run_enterLoop_outer _ _ _ _ _
 ·simp only [resolve,hg]
  simp [go_sem]
 ·intro f' hf';simp [Target.leads] at hf';subst hf';exact hFg
 ·simp [invoke,go_sem,eg]
 refine (hseq (w.heap.size + 1) (fun k V=>I k V∧LiveM w.heap.size r0 V) (fun k V=>∃ c,Ix c k V∧LiveM w.heap.size { r0 with state:=.done,pending:=some c } V) W1 (fun k V h=>hRd k V h.1)
  (fun k V cs t h=>⟨hI.alloc _ h.1,h.2.keep (KeepsOthers.alloc V _)⟩) ?_ ⟨hI1,hl1⟩).mono ?_
 ·rintro k x V ⟨hi,hl⟩ hx
  have hy:=run_yield (P:=P) (args:=x) hl.1 (by rw [hr0];exact (hps k x hx).symm)
  refine ⟨_,_,_,_,hy,roundIn_of_wpIn (by rw [hr0];exact hfn) ?_⟩
  have ha:=hassign (w.heap.size + 1) k x V (fun a₁ w₁=>∃ w₂,(Instr.beginRound (w.heap.size + 1)).run P w₁ = .ok () w₂∧body.wpIn (F.inRound (w.heap.size + 1)) (n - 1 - 1) P (roundPost P (w.heap.size + 1) fun e V'=>(e = .returned (.bool true)∧(I (k + 1) V'∧LiveM w.heap.size r0 V')) ∨ (e = .returned (.bool false) ∧ ∃ c,Ix c (k + 1) V'∧LiveM w.heap.size { r0 with state:=.done,pending:=some c } V')) a₁ w₂)
   hx ⟨_,run_beginRound (hl.keep (KeepsOthers.alloc V _)).1 (by rw [hr0]),?_⟩
  ·rw [hr0] at ha ⊢;exact ha
  ·have hl1:=hl.keep (KeepsOthers.alloc V (.cells (cs x).toArray ty))
   have hi1:I k (V.alloc (.cells (cs x).toArray ty)):=hI.alloc _ hi
   have hlb:=hl1.put { r0 with state:=.busy }
   refine wpIn_mono (hbody _ k x _ V.heap.size (OwnFrom.liveM (w:=w) hI hl1 hi1 _) hx (by have:=hl.lt;omega) (At.own (at_new0 V (cs x) ty) (grownBy_putObj' _ _ _) (fun r e=>by cases e;have:=hl.lt;omega))) ?_
   rintro e a3 V3 hp
   have out:∀ (c:Code),KeepsOthers ((V.alloc (.cells (cs x).toArray ty)).putObj (w.heap.size + 1) (.loop { r0 with state:=.busy })) V3→Ix c (k + 1) V3 → ∃ v V4,(Instr.endRound (w.heap.size + 1) (some c)).run P V3 = .ok v V4∧((Ending.returned v = .returned (.bool true)∧(I (k + 1) V4∧LiveM w.heap.size r0 V4)) ∨ (Ending.returned v = .returned (.bool false) ∧ ∃ c,Ix c (k + 1) V4∧LiveM w.heap.size { r0 with state:=.done,pending:=some c } V4)):=fun c hk hi3=>by
    have hl3:=hlb.keep hk
    exact ⟨_,_,hl3.fin (some c),.inr ⟨rfl,c,OwnFrom.liveM (w:=w) (hIx c) hl3 hi3 _,hl3.put _⟩⟩
   cases e with
   | normal =>
     obtain ⟨hk3,hi3⟩:=hp
     have hl3:=hlb.keep hk3
     refine ⟨_,_,hl3.fin none,.inl ⟨rfl,⟨OwnFrom.liveM (w:=w) hI hl3 hi3 _,?_⟩⟩⟩
     have:=hl3.put r0
     rw [hr0] at this ⊢
     exact this
   | ret=>exact out _ hp.1 hp.2
   | exit id=>exact out _ hp.1 hp.2
   | goto t=>exact out _ hp.1 hp.2
   | panic ch=>exact hp.elim
   | outgrown=>exact hp.elim
 ·rintro e W2 ⟨⟨v,rfl⟩,(⟨hi,hl⟩ | ⟨k,_,c,hi,hl⟩)⟩
  ·refine ⟨none,_,?_,hdone w.heap.size _ (Nat.le_refl _) (OwnFrom.liveM (w:=w) hI hl hi { r0 with state:=.exhausted }) ((World.putObj_heap_other (by omega)).trans hl.2)⟩
   have:=run_endLoop (P:=P) hl.1 (by rw [hr0];simp)
   rw [this,hr0]
  ·refine ⟨some c,_,?_,hstop w.heap.size c k _ (Nat.le_refl _) (OwnFrom.liveM (w:=w) (hIx c) hl hi { { r0 with state:=.done,pending:=some c } with state:=.exhausted }) ((World.putObj_heap_other (by omega)).trans hl.2)⟩
   exact run_endLoop (P:=P) hl.1 (by simp)
theorem wpIn_range_two (s1 s2 sb ss:Nat) {g:Operand} {ps:Array Tmp} {assign body:Code} {Q:Exit→Act→World→Prop} {a:Act} {w:World}
 (hro:F.round=none) (h1:1≤n) {gf:Nat} {lb:Array Value} (hg:a.eval g = .func (.func gf) #[] lb) (hFg:F.fn gf) (eg:∀ args w,(callFunc gf args).run P w = .ok (.enter gf args) w)
 {Rd:World→Prop} {xs:List (Array Value)} (hseq:SeqM F (n - 1) P gf lb Rd xs) (hps:∀ (k:Nat) (x:Array Value),xs[k]? = some x→ps.size=x.size)
 (I:Nat→World→Prop) (Ix:Code→Nat→World→Prop) (hI:OwnFrom w.heap.size I) (hIx:∀ c,OwnFrom w.heap.size (Ix c)) (hRd:∀ k V,I k V→Rd V) (h0:I 0 w) (cs:Array Value→List Value) (ty:TypeId)
 (hassign:∀ (l k:Nat) (x:Array Value) (V:World) (K:Act→World→Prop),xs[k]? = some x→K ({ tmps:=(((a.tmps.setIfInBounds s1 (x.getD 0 undef)).setIfInBounds s2 (x.getD 1 undef)).setIfInBounds sb (.pointer (some ⟨V.heap.size,0,none⟩))).setIfInBounds ss (x.getD 1 undef),defers:=[] }) (V.alloc (.cells (cs x).toArray ty)) →
   assign.wpIn (F.inRound l) (n - 1 - 1) P (Exit.then K (fun _ _ _=>False)) { tmps:=(ps.zip x).foldl (fun t (p,v)=>t.setIfInBounds p v) a.tmps,defers:=[] } V)
 (hbody:∀ (l k:Nat) (x:Array Value) (V:World) (b:Nat),I k V→xs[k]? = some x→w.heap.size≤b→At V b (cs x)→body.wpIn (F.inRound l) (n - 1 - 1) P (MPost I Ix (k + 1) V) ({ tmps:=(((a.tmps.setIfInBounds s1 (x.getD 0 undef)).setIfInBounds s2 (x.getD 1 undef)).setIfInBounds sb (.pointer (some ⟨b,0,none⟩))).setIfInBounds ss (x.getD 1 undef),defers:=[] }) V)
 (hdone:∀ (D:Nat) (V:World),w.heap.size≤D→I xs.length V→V.heap[D]? = some (.deferred (some []))→Q .normal { a with defers:={ target:=.collected D,args:=#[] } :: a.defers } V)
 (hstop:∀ (D:Nat) (c:Code) (k:Nat) (V:World),w.heap.size≤D→Ix c k V→V.heap[D]? = some (.deferred (some []))→c.wpIn F n P Q { a with defers:={ target:=.collected D,args:=#[] } :: a.defers } V) :
 (Code.rangeFunc g ps assign body).wpIn F n P Q a w:=by
 exact wpIn_range_mk hro h1 hg hFg eg hseq hps I Ix hI hIx hRd h0 cs ty (fun y b=>{ tmps:=(((a.tmps.setIfInBounds s1 (y.getD 0 undef)).setIfInBounds s2 (y.getD 1 undef)).setIfInBounds sb (.pointer (some ⟨b,0,none⟩))).setIfInBounds ss (y.getD 1 undef),defers:=[] }) hassign hbody hdone hstop
end Go.Proofs.YtfflmmbhpchloaaGreatDoor
end
section
open Go.RowKit
open Go.Proofs.YtfflmmbhpchloaaGreatDoor.V
namespace Go.Proofs.YtfflmmbhpchloaaGreatDoor
attribute [local go_sem] Oper.semAt_some
structure SgAt (p:Nat) (A:Option Addr) (n c:Nat) (A':Option Addr) (n' c':Nat) (l l':List AL) (V:World):Prop where
 c0:V.cell? ⟨p,0,none⟩=some (.slice A n c)
 c1:V.cell? ⟨p,1,none⟩=some (.slice A' n' c')
 hl:n=l.length
 hl':n'=l'.length
 up:∀ k a,l[k]? = some a → ∃ ad:Addr,A=some ad∧V.cell? (ad.add (k * 3))=some (.string a.1)∧V.cell? ⟨(ad.add (k * 3)).block,(ad.add (k * 3)).off + 1,none⟩=some (.string a.2.1)∧V.cell? ⟨(ad.add (k * 3)).block,(ad.add (k * 3)).off + 2,none⟩=some (.int .i64 a.2.2)
 dn:∀ k a,l'[k]? = some a → ∃ ad:Addr,A'=some ad∧V.cell? (ad.add (k * 3))=some (.string a.1)∧V.cell? ⟨(ad.add (k * 3)).block,(ad.add (k * 3)).off + 1,none⟩=some (.string a.2.1)∧V.cell? ⟨(ad.add (k * 3)).block,(ad.add (k * 3)).off + 2,none⟩=some (.int .i64 a.2.2)
def argA (x:AL × Int):Array Value:=#[.agg #[.string x.1.1,.string x.1.2.1,.int .i64 x.1.2.2],.int .i64 x.2]
def argsA (l l':List AL):List (Array Value):=(sgA (l,l')).map argA
theorem argsA_len (l l':List AL):(argsA l l').length=l.length + l'.length:=by unfold argsA sgA;simp
theorem argsA_up {l l':List AL} {k:Nat} {a:AL} (h:l[k]? = some a):(argsA l l')[k]? = some (argA (a,1)):=by
 have hk:=(List.getElem?_eq_some_iff.1 h).1
 unfold argsA sgA
 rw [List.getElem?_map,List.getElem?_append_left (by simpa using hk),List.getElem?_map,h];rfl
theorem argsA_dn {l l':List AL} {k:Nat} {a:AL} (h:l'[k]? = some a):(argsA l l')[l.length + k]? = some (argA (a,-1)):=by
 unfold argsA sgA
 rw [List.getElem?_map,List.getElem?_append_right (by simp)]
 simp [h]
theorem sgn_at {n0 p:Nat} {A A':Option Addr} {n c n' c':Nat} {l l':List AL} (hn:n≤1000000) (hn':n'≤1000000) :
 SeqM Fence.wide n0 Tryz.prog 59 #[.pointer (some ⟨p,0,none⟩)] (SgAt p A n c A' n' c' l l') (argsA l l'):=by
 intro li J Jx W hRd hAl hY h0
 have HY:=khide hY
 have HR:=khide hRd
 have HA:=khide hAl
 have hc0:=(hRd 0 W h0).c0
 obtain ⟨N,hN⟩:∃ N,N=(argsA l l').length:=⟨_,rfl⟩
 have HNN:Hid (N=n + n'):=by rw [hN,argsA_len,(hRd 0 W h0).hl,(hRd 0 W h0).hl'];rfl
 have HNL:Hid (n=l.length):=(hRd 0 W h0).hl
 have HNL2:Hid (n'=l'.length):=(hRd 0 W h0).hl'
 refine callsIn_of_wp Tryz.func59 rfl trivial ?_ rfl
 simp only [Tryz.ntmps59,List.size_toArray,List.length_cons,List.length_nil,Nat.reduceAdd,Nat.reduceSub,Array.replicate_succ,Array.replicate_zero,List.push_toArray,List.append_toArray,List.nil_append,List.cons_append]
 rw [← hN]
 have HN:=khide hN
 clear hY hRd hAl hN
 gi_wp2
 gi_loopw [10] (fun iv wr=>∃ k:Nat,k≤n∧iv = .int .i64 (k:Int)∧Hid (J k wr)) (fun iv _=>n - (intOf iv).toNat)
 case atStart=>exact ⟨0,Nat.zero_le _,rfl,h0⟩
 case round =>
  obtain ⟨k,hk,rfl,HJ⟩:=hrel
  by_cases hlt:k < n
  ·have hx:k < l.length:=by rw [← HNL.out];exact hlt
   obtain ⟨x,hxe⟩:∃ x,l[k]? = some x:=⟨_,List.getElem?_eq_getElem hx⟩
   obtain ⟨ad,rfl,q0,q1,q2⟩:=(HR.out _ _ HJ.out).up k x hxe
   have HJ1:Hid (J (k) (wr.alloc (.cells #[.string x.1,.string x.2.1,.int .i64 x.2.2] 96))):=HA.out _ _ _ _ HJ.out
   have hxa:(argsA l l')[k]? = some (argA (x,1)):=argsA_up hxe
   obtain ⟨fn,tmps,assign,body,hy,hRr⟩:=HY.out (k) _ _ HJ1.out hxa
   unfold argA at hy
   have wk:IntKind.i64.wrap ((k:Int) + 1)=(k:Int) + 1:=IntWalk.i64_in _ (by omega)
   have dk:decide ((k:Int) < (n:Int))=true:=decide_eq_true (by omega)
   have HLE:Hid (k + 1≤N):=by rw [HNN.out];unfold Hid;omega
   clear hxe hx hxa
   gi_wp2_with fail
   refine ⟨fun h=>(by cases h),hRr.mono ?_⟩
   rintro e W3 (⟨rfl,hJ3⟩ | ⟨rfl,hJx3⟩)
   ·have HJ3:=khide hJ3
    clear hJ3 HJ HJ1 hRr hy
    gi_wp2
    go_roundw
    case rel=>exact ⟨k + 1,by omega,by go_num,HJ3⟩
    case measure=>simp [intOf];omega
   ·have HJ3:=khide hJx3
    clear hJx3 HJ HJ1 hRr hy
    gi_wp2
    refine bodyPost_ret (results_none rfl _ _ _) rfl ?_
    exact ⟨⟨_,rfl⟩,.inr ⟨_,HLE.out,HJ3.out⟩⟩
  ·obtain rfl:k=n:=by omega
   have dk:decide ((k:Int) < (k:Int))=false:=decide_eq_false (by omega)
   have hc1:=(HR.out _ _ HJ.out).c1
   have HN0:=HJ
   gi_wp2
   gi_loopw [22] (fun iv wr=>∃ j:Nat,j≤n'∧iv = .int .i64 (j:Int)∧Hid (J (k + j) wr)) (fun iv _=>n' - (intOf iv).toNat)
   case atStart=>exact ⟨0,Nat.zero_le _,rfl,HN0⟩
   case round =>
    obtain ⟨j,hk,rfl,HJ⟩:=hrel
    by_cases hlt:j < n'
    ·have hx:j < l'.length:=by rw [← HNL2.out];exact hlt
     obtain ⟨x,hxe⟩:∃ x,l'[j]? = some x:=⟨_,List.getElem?_eq_getElem hx⟩
     obtain ⟨ad,rfl,q0,q1,q2⟩:=(HR.out _ _ HJ.out).dn j x hxe
     have HJ1:Hid (J (k + j) (wr.alloc (.cells #[.string x.1,.string x.2.1,.int .i64 x.2.2] 96))):=HA.out _ _ _ _ HJ.out
     have hxa:(argsA l l')[k + j]? = some (argA (x,-1)):=by rw [HNL.out];exact argsA_dn hxe
     obtain ⟨fn,tmps,assign,body,hy,hRr⟩:=HY.out (k + j) _ _ HJ1.out hxa
     unfold argA at hy
     have wk:IntKind.i64.wrap ((j:Int) + 1)=(j:Int) + 1:=IntWalk.i64_in _ (by omega)
     have dk:decide ((j:Int) < (n':Int))=true:=decide_eq_true (by omega)
     have HLE:Hid (k + j + 1≤N):=by rw [HNN.out];unfold Hid;omega
     clear hxe hx hxa
     gi_wp2_with fail
     refine ⟨fun h=>(by cases h),hRr.mono ?_⟩
     rintro e W3 (⟨rfl,hJ3⟩ | ⟨rfl,hJx3⟩)
     ·have HJ3:=khide hJ3
      clear hJ3 HJ HJ1 hRr hy
      gi_wp2
      go_roundw
      case rel=>exact ⟨j + 1,by omega,by go_num,HJ3⟩
      case measure=>simp [intOf];omega
     ·have HJ3:=khide hJx3
      clear hJx3 HJ HJ1 hRr hy
      gi_wp2
      refine bodyPost_ret (results_none rfl _ _ _) rfl ?_
      exact ⟨⟨_,rfl⟩,.inr ⟨_,HLE.out,HJ3.out⟩⟩
    ·obtain rfl:j=n':=by omega
     have dk:decide ((j:Int) < (j:Int))=false:=decide_eq_false (by omega)
     gi_wp2
     go_end0
     exact ⟨⟨_,rfl⟩,.inl (by rw [HNN.out];exact HJ.out)⟩
end Go.Proofs.YtfflmmbhpchloaaGreatDoor
end
