/- Each theorem here says its own conditions. -/
import Derived.OrdersIn
import Derived.Test.YtfflmmbhpchloaaGreatDoorGTpwc27
set_option maxRecDepth 100000
set_option maxHeartbeats 16000000
section
open Go.RowKit
namespace Go.Proofs.YtfflmmbhpchloaaGreatDoor
theorem upon_wide {l n:Nat} {P:Program} {o:Oper} {a:Act} {K K':Act→World→Prop} {Q:Exit→Act→World→Prop} {r:Result Next} (hk:∀ a w,K a w→K' a w) (h:o.upon P a K Q r):o.uponIn (Fence.wide.inRound l) n P a K' Q r:=by
 cases r with
 | ok x w' =>
   cases x with
   | value v=>exact hk _ _ h
   | skip=>exact hk _ _ h
   | enter f args =>
     refine ⟨(fun h=>by cases h),CallsIn.inRound l (callsIn_wide.2 (Calls.mono h ?_))⟩
     intro e w'' he
     cases e with
     | returned v=>exact hk _ _ he
     | panicked c=>exact he
     | outgrown=>exact he
   | row row args=>exact ⟨(fun h=>by cases h),fun c cs _=>let ⟨v,w1,r,s⟩:=h c cs;⟨v,w1,hk _ _ r,stepsIn_wide.2 s⟩⟩
   | _=>first | exact hk _ _ h | exact h.elim
 | halt x w' =>
   cases x with
   | panic v=>exact h
   | _=>exact h.elim
theorem wpOp_wide {l n i:Nat} {P:Program} {ops:Array Oper} {a:Act} {w:World} {K K':Act→World→Prop} {Q:Exit→Act→World→Prop} (hk:∀ a w,K a w→K' a w) (hd:∀ o,ops[i]? = some o → ∀ c,o.op ≠ .defer c) (hL:¬ LetsOut Q) (h:wpOp P ops Q i K a w):wpOpIn (Fence.wide.inRound l) n P ops Q i K' a w:=by
 unfold wpOp at h
 unfold wpOpIn
 cases ho:ops[i]? with
 | none=>rw [ho] at h;exact hk _ _ h
 | some o =>
   rw [ho] at h
   dsimp only at h ⊢
   split at h
   ·rename_i hw
    rw [if_pos hw]
    rcases h with h | h
    ·refine ⟨fun f _=>trivial,?_⟩
     rw [Oper.semAt_eq _ _ _ (hd o ho)]
     exact upon_wide hk h
    ·exact absurd h.2 hL
   ·rename_i hw
    rw [if_neg hw]
    exact ⟨fun f _=>trivial,hk _ _ h⟩
theorem wpAny_wide {l n:Nat} {P:Program} {md:Region.Mode} {ops:Array Oper} {Q:Exit→Act→World→Prop} (hd:∀ (i:Nat) (o:Oper),ops[i]? = some o → ∀ c,o.op ≠ .defer c) (hL:¬ LetsOut Q) :
 ∀ (fuel:Nat) (listed:Array Bool) (a:Act) (w:World),wpAny P md ops Q fuel listed a w→wpAnyIn (Fence.wide.inRound l) n P md ops Q fuel listed a w
 | 0,_,_,_,h=>h
 | fuel + 1,_,_,_,h=>⟨h.1,fun i hi=>wpOp_wide (fun a' w' h'=>wpAny_wide hd hL fuel _ a' w' h') (hd i) hL (h.2 i hi)⟩
def noDefer (o:Oper):Bool:=match o.op with
 | .defer _=>false
 | _=>true
theorem noDefer_all {ops:Array Oper} (h:ops.toList.all noDefer=true) (i:Nat) (o:Oper) (ho:ops[i]? = some o) (c):o.op ≠ .defer c:=fun e=>by
 have h1:=List.all_eq_true.1 h o (by rw [Array.mem_toList_iff];exact Array.mem_of_getElem? ho)
 unfold noDefer at h1
 rw [e] at h1
 cases h1
theorem wpIn_region_held_drew {l n id:Nat} {P:Program} {ops:Array Oper} {Q:Exit→Act→World→Prop} {S:World→Prop} {a:Act} {w:World} (hm:P.follows .mixedOrders=true) (hd:ops.toList.all noDefer=true) (hL:¬ LetsOut Q) (hS:S w.drew)
 (h:S w.drew→wpAnyH P .any ops Q S ops.size (Array.replicate ops.size false) a w.drew):(Code.region id ops true).wpIn (Fence.wide.inRound l) n P Q a w :=
 wpIn_region_any hm (wpAny_wide (noDefer_all hd) hL _ _ _ _ (wpAny_of_held _ _ _ _ (h hS)))
theorem wp_store_new {P:Program} {o:Oper} {a:Act} {w:World} {K:Act→World→Prop} {Q:Exit→Act→World→Prop} (ty:TypeId) (cells:List Value) (x y:Operand) (old:List Value) (ho:o.op = .store ty x y)
 (hx:a.eval x = .pointer (some ⟨w.heap.size,0,none⟩)) (hy:a.eval y = .agg cells.toArray) (hi:(P.info? ty).map (·.size)=some cells.length) (hold:old.length=cells.length) (h1:cells.all (·.oneCell')=true)
 (h:K (a.put o.dst undef) (w.alloc (.cells cells.toArray ty))):o.wp P a (w.alloc (.cells old.toArray ty)) K Q :=
 wp_store_row ty x y ho w.heap.size cells.toArray hx hy ty old.toArray (heap_alloc_new w _) (by simpa using hi) (by simpa using hold) (by simpa using h1) (by rw [setRow_new];exact h)
theorem if_plain {o:Oper} {y:Nat→Option Bool} {p q:Prop} (h:o.guard=none) (hp:p):if Region.wanted o y=true then p else q:=by
 have e:Region.wanted o y=true:=by unfold Region.wanted;rw [h]
 rw [if_pos e];exact hp
theorem wp_store_newd {P:Program} {o:Oper} {a:Act} {w:World} {K:Act→World→Prop} {Q:Exit→Act→World→Prop} (ty:TypeId) (cells:List Value) (x y:Operand) (old:List Value) (ho:o.op = .store ty x y)
 (hx:a.eval x = .pointer (some ⟨w.heap.size,0,none⟩)) (hy:a.eval y = .agg cells.toArray) (hi:(P.info? ty).map (·.size)=some cells.length) (hold:old.length=cells.length) (h1:cells.all (·.oneCell')=true)
 (h:K (a.put o.dst undef) (w.alloc (.cells cells.toArray ty)).drew):o.wp P a (w.alloc (.cells old.toArray ty)).drew K Q :=
 wp_store_new (w:=w.drew) ty cells x y old ho hx hy hi hold h1 h
end Go.Proofs.YtfflmmbhpchloaaGreatDoor
end
section
open Go.RowKit Go.Shelf
open Go.Proofs.YtfflmmbhpchloaaGreatDoor.V
namespace Go.Proofs.YtfflmmbhpchloaaGreatDoor
attribute [local go_sem] Oper.semAt_some
theorem sgn_call (n:Nat) (V:World) (A1:Option Addr) (n1 c1:Nat) (A2:Option Addr) (n2 c2:Nat) (A3:Option Addr) (n3 c3:Nat) :
 CallsIn Fence.wide n Tryz.prog 32 #[.agg #[.slice A1 n1 c1,.slice A2 n2 c2,.slice A3 n3 c3]] V fun e w'=>e = .returned (.func (.func 59) #[] #[.pointer (some ⟨V.heap.size,0,none⟩)])∧w'=V.alloc (.cells #[.slice A1 n1 c1,.slice A2 n2 c2,.slice A3 n3 c3] 44):=by
 refine callsIn_wide.2 ?_
 go_enter Tryz.func32,Tryz.ntmps32
 go_wp2
 go_ret
 exact ⟨rfl,rfl⟩
section
variable {base p:Nat} {W W':World} {x:TPl} {T:Tb} {A1 A2 A3:Option Addr} {n1 c1 n2 c2 n3 c3:Nat} {l l':List AL}
structure PtR (W:World) (A:Option Addr) (n:Nat) (A':Option Addr) (n':Nat) (l l':List AL):Prop where
 h1:Cs W A (cellsA l)
 h2:Cs W A' (cellsA l')
 e1:n=l.length
 e2:n'=l'.length
 s:∀ a ∈ l ++ l',a.1.size≤2000000∧a.2.1.size≤2000000
 b:n≤1000000∧n'≤1000000
theorem ko_bel {W W':World} (h:Hid (Below W.heap.size W W')):KeepsOthers W W':=⟨h.out.size,fun k o hk _=>(h.out.block k (Array.getElem?_eq_some_iff.1 hk).1).trans hk⟩
structure VBox (q0 q2 q3 q4 q5 p:Nat) (A1:Option Addr) (n1 c1:Nat) (A2:Option Addr) (n2 c2:Nat) (A3:Option Addr) (n3 c3:Nat) (v:V8) (V:World):Prop where
 b0:At V q0 [.pointer (some ⟨p,0,none⟩)]
 b2:At V q2 V8.z.c
 b3:At V q3 [.bool false]
 b4:At V q4 v.c
 b5:At V q5 [.slice A1 n1 c1,.slice A2 n2 c2,.slice A3 n3 c3]
section
variable {q0 q2 q3 q4 q5:Nat} {v:V8} {V V':World}
theorem VBox.own {d:Nat} {row:Option Nat} (h:VBox q0 q2 q3 q4 q5 p A1 n1 c1 A2 n2 c2 A3 n3 c3 v V) (hg:V.grownBy V' row) (hd:q0 < d∧q2 < d∧q3 < d∧q4 < d∧q5 < d) (hr:∀ r,row=some r→d≤r):VBox q0 q2 q3 q4 q5 p A1 n1 c1 A2 n2 c2 A3 n3 c3 v V' :=
 ⟨h.b0.own hg (fun r e=>by have:=hr r e;omega),h.b2.own hg (fun r e=>by have:=hr r e;omega),h.b3.own hg (fun r e=>by have:=hr r e;omega),h.b4.own hg (fun r e=>by have:=hr r e;omega),h.b5.own hg (fun r e=>by have:=hr r e;omega)⟩
theorem VBox.up (h:VBox q0 q2 q3 q4 q5 p A1 n1 c1 A2 n2 c2 A3 n3 c3 v V) (hb:Hid (Below V.heap.size V V')):VBox q0 q2 q3 q4 q5 p A1 n1 c1 A2 n2 c2 A3 n3 c3 v V':=⟨h.b0.up hb,h.b2.up hb,h.b3.up hb,h.b4.up hb,h.b5.up hb⟩
end
abbrev set8 (W:World) (q:Nat) (u:V8):World:=(((((((W.setCell ⟨q,0,none⟩ (.int .i64 u.x0)).setCell ⟨q,1,none⟩ (.int .i64 u.x1)).setCell ⟨q,2,none⟩ (.int .i64 u.x2)).setCell ⟨q,3,none⟩ (.int .i64 u.x3)).setCell ⟨q,4,none⟩ (.int .i64 u.x4)).setCell ⟨q,5,none⟩ (.int .i64 u.x5)).setCell ⟨q,6,none⟩ (.int .i64 u.x6)).setCell ⟨q,7,none⟩ (.int .i64 u.x7)
theorem at_s8 {W:World} {q:Nat} {v u:V8} (h:At W q v.c):At (set8 W q u) q u.c:=h.put8
theorem At.farS {W:World} {q q':Nat} {vs:List Value} {u:V8} (h:At W q vs) (hn:q' ≠ q):At (set8 W q' u) q vs:=(((((((h.far hn _).far hn _).far hn _).far hn _).far hn _).far hn _).far hn _).far hn _
theorem ko_s8 {W W':World} {q:Nat} {u:V8} (h:KeepsOthers W W'):KeepsOthers W (set8 W' q u) :=
 (((((((h.trans (KeepsOthers.setCell _ _ _)).trans (KeepsOthers.setCell _ _ _)).trans (KeepsOthers.setCell _ _ _)).trans (KeepsOthers.setCell _ _ _)).trans (KeepsOthers.setCell _ _ _)).trans (KeepsOthers.setCell _ _ _)).trans (KeepsOthers.setCell _ _ _)).trans (KeepsOthers.setCell _ _ _)
theorem ko_up {W W' W'':World} (h:KeepsOthers W W') (hb:Hid (Below W'.heap.size W' W'')):KeepsOthers W W'':=h.trans (ko_bel hb)
theorem below_set8 {W W':World} {q:Nat} {u:V8} (h:Below W.heap.size W W') (hq:W.heap.size≤q):Below W.heap.size W (set8 W' q u):=Bel.put8 h hq
theorem VBox.far8 {q0 q2 q3 q4 q5 q:Nat} {v u:V8} {V:World} (h:VBox q0 q2 q3 q4 q5 p A1 n1 c1 A2 n2 c2 A3 n3 c3 v V) (hq:q ≠ q0∧q ≠ q2∧q ≠ q3∧q ≠ q4∧q ≠ q5):VBox q0 q2 q3 q4 q5 p A1 n1 c1 A2 n2 c2 A3 n3 c3 v (set8 V q u) :=
 ⟨h.b0.farS hq.1,h.b2.farS hq.2.1,h.b3.farS hq.2.2.1,h.b4.farS hq.2.2.2.1,h.b5.farS hq.2.2.2.2⟩
theorem VBox.put8 {q0 q2 q3 q4 q5:Nat} {v u:V8} {V:World} (h:VBox q0 q2 q3 q4 q5 p A1 n1 c1 A2 n2 c2 A3 n3 c3 v V) (hq:q4 ≠ q0∧q4 ≠ q2∧q4 ≠ q3∧q4 ≠ q5):VBox q0 q2 q3 q4 q5 p A1 n1 c1 A2 n2 c2 A3 n3 c3 u (set8 V q4 u) :=
 ⟨h.b0.farS hq.1,h.b2.farS hq.2.1,h.b3.farS hq.2.2.1,at_s8 h.b4,h.b5.farS hq.2.2.2⟩
theorem VBox.out {q0 q2 q3 q4 q5 k:Nat} {v:V8} {V0 V:World} {res:Option V8} {I:Nat→World→Prop} {a:Act} (h:VBox q0 q2 q3 q4 q5 p A1 n1 c1 A2 n2 c2 A3 n3 c3 v V) (hk:KeepsOthers V0 V) (hn:res=none) (hb:Below W.heap.size W V) (h2:W.heap.size≤q2) (h3:W.heap.size≤q3) (hq:q2 ≠ q3) :
 MPost I (fun c _ V=>c = .ret∧res=none∧At V q2 V8.z.c∧At V q3 [.bool false]∧Below W.heap.size W V) k V0 .ret a ((set8 V q2 V8.z).setCell ⟨q3,0,none⟩ (.bool false)) :=
 ⟨(ko_s8 hk).trans (KeepsOthers.setCell _ _ _),rfl,hn,(at_s8 h.b2).far (Ne.symm hq) _,(h.b3.farS hq).put (i:=0) (by simp) _,(below_set8 hb h2).setCell h3 _⟩
theorem VBox.outA {q0 q2 q3 q4 q5 k:Nat} {v:V8} {V0 V:World} {res:Option V8} {I:Nat→World→Prop} {a:Act} {o:Obj} (h:VBox q0 q2 q3 q4 q5 p A1 n1 c1 A2 n2 c2 A3 n3 c3 v V) (hk:KeepsOthers V0 V) (hn:res=none) (hb:Below W.heap.size W V) (h2:W.heap.size≤q2) (h3:W.heap.size≤q3) (hq:q2 ≠ q3) :
 MPost I (fun c _ V=>c = .ret∧res=none∧At V q2 V8.z.c∧At V q3 [.bool false]∧Below W.heap.size W V) k V0 .ret a (((set8 V q2 V8.z).setCell ⟨q3,0,none⟩ (.bool false)).alloc o) :=
 ⟨((ko_s8 hk).trans (KeepsOthers.setCell _ _ _)).trans (KeepsOthers.alloc _ _),rfl,hn,((at_s8 h.b2).far (Ne.symm hq) _).al _,((h.b3.farS hq).put (i:=0) (by simp) _).al _,((below_set8 hb h2).setCell h3 _).alloc ((below_set8 hb h2).setCell h3 _).size _⟩
theorem name_at {Q:Exit→Act→World→Prop} {e:Exit} {a:Act} {X:World} (h:∀ W',W'=X→Q e a W'):Q e a X:=h X rfl
theorem PtR.sg (h:PtR W A1 n1 A2 n2 l l') {V:World} {q:Nat} (hb:Hid (Below W.heap.size W V)) (hq:At V q [.slice A1 n1 c1,.slice A2 n2 c2,.slice A3 n3 c3]):SgAt q A1 n1 c1 A2 n2 c2 l l' V:=by
 refine ⟨hq.c0,hq.c1,h.e1,h.e2,fun k a hk=>?_,fun k a hk=>?_⟩
 ·have h1:=h.h1.up hb
  obtain ⟨ad,e,_,g1,g2,g3⟩:=cs_at3 h1 hk
  exact ⟨ad,e,g1,g2,g3⟩
 ·have h1:=h.h2.up hb
  obtain ⟨ad,e,_,g1,g2,g3⟩:=cs_at3 h1 hk
  exact ⟨ad,e,g1,g2,g3⟩
theorem vec_step {T:Tb} {y:AL × Int} {r:List (AL × Int)} {v:V8} {m:Ent} (h:lookL T.ents y.1.2.1=some m):T.vecGo (y :: r) v=if V8.mulB m.vec y.1.2.2=true then (if V8.addB v (V8.mulR (V8.mulR m.vec y.1.2.2) y.2)=true then T.vecGo r (V8.addR v (V8.mulR (V8.mulR m.vec y.1.2.2) y.2)) else none) else none:=by
 conv=>lhs;unfold Tb.vecGo
 rw [h]
theorem vec_none {T:Tb} {y:AL × Int} {r:List (AL × Int)} {v:V8} (h:lookL T.ents y.1.2.1=none):T.vecGo (y :: r) v=none:=by
 conv=>lhs;unfold Tb.vecGo
 rw [h]
theorem args_at {l l':List AL} {k:Nat} {y:Array Value} (h:(argsA l l')[k]? = some y):∃ z,(sgA (l,l'))[k]? = some z∧y=argA z:=by
 unfold argsA at h
 rw [List.getElem?_map] at h
 cases hz:(sgA (l,l'))[k]? with
 | none=>rw [hz] at h;cases h
 | some z=>rw [hz] at h;injection h with h;exact ⟨z,rfl,h.symm⟩
theorem sg_mem {l l':List AL} {k:Nat} {z:AL × Int} (h:(sgA (l,l'))[k]? = some z):z.1 ∈ l ++ l':=by
 have:=List.mem_of_getElem? h
 unfold sgA at this
 rcases List.mem_append.1 this with h | h
 ·obtain ⟨a,ha,rfl⟩:=List.mem_map.1 h;exact List.mem_append_left _ ha
 ·obtain ⟨a,ha,rfl⟩:=List.mem_map.1 h;exact List.mem_append_right _ ha
theorem tvec_h (h:TabM base W p x T) (hp:PtR W A1 n1 A2 n2 l l'):Calls Tryz.prog 12 #[.pointer (some ⟨p,0,none⟩),.agg #[.slice A1 n1 c1,.slice A2 n2 c2,.slice A3 n3 c3]] W
 (fun e w'=>e = .returned (.tuple #[((T.vec (l,l')).getD V8.z).v,.bool (T.vec (l,l')).isSome])∧Bel W w'):=by
 refine (callsIn_wide (n:=9)).1 ?_
 obtain ⟨res,hres⟩:∃ r,T.vec (l,l')=r:=⟨_,rfl⟩
 rw [hres]
 have HRS0:=khide hres
 clear hres
 have CS:=khide (sgn_call 8)
 have HT:=khide h
 have HP:=khide hp
 refine callsIn_of_wp_marks Tryz.func12 rfl trivial ?_ rfl
 simp only [Tryz.ntmps12,List.size_toArray,List.length_cons,List.length_nil,Nat.reduceAdd,Nat.reduceSub,Array.replicate_succ,Array.replicate_zero,List.push_toArray,List.append_toArray,List.nil_append,List.cons_append]
 clear h hp
 gi_wp2_with (refine ⟨trivial,?_⟩;gi_at_call 32;refine (CS.out _ _ _ _ _ _ _ _ _ _).mono ?_;rintro e w' ⟨rfl,hw⟩;rw [hw];clear hw)
 obtain ⟨W0,hW0⟩:∃ X,X=((((((W.alloc (.cells #[.pointer (some ⟨p,0,none⟩)] 26)).alloc (.cells #[.slice A1 n1 c1,.slice A2 n2 c2,.slice A3 n3 c3] 44)).alloc (.cells V8.z.c.toArray 36)).alloc (.cells #[.bool false] 4)).alloc (.cells V8.z.c.toArray 36)).alloc (.cells #[.slice A1 n1 c1,.slice A2 n2 c2,.slice A3 n3 c3] 44)):=⟨_,rfl⟩
 rw [← hW0]
 have HBX:VBox W.heap.size (W.heap.size + 1 + 1) (W.heap.size + 1 + 1 + 1) (W.heap.size + 1 + 1 + 1 + 1) (W.heap.size + 1 + 1 + 1 + 1 + 1) p A1 n1 c1 A2 n2 c2 A3 n3 c3 V8.z W0:=by
  rw [hW0]
  exact ⟨(((((at_new0 _ _ _).al _).al _).al _).al _).al _,(((at_new2 _ _ _ _ _).al _).al _).al _,((at_new3 _ _ _ _ _ _).al _).al _,(at_new4 _ _ _ _ _ _ _).al _,at_size (at_new0 _ _ _) (by simp)⟩
 have hB0:Below W.heap.size W W0:=by rw [hW0];exact (((((((Bel.refl W).al _).al _).al _).al _).al _).al _)
 have hsz:W0.heap.size=W.heap.size + 6:=by rw [hW0];simp
 clear hW0 CS
 obtain ⟨q5,hq5⟩:∃ q,q=W.heap.size + 1 + 1 + 1 + 1 + 1:=⟨_,rfl⟩
 rw [← hq5] at HBX ⊢
 obtain ⟨q4,hq4⟩:∃ q,q=W.heap.size + 1 + 1 + 1 + 1:=⟨_,rfl⟩
 rw [← hq4] at HBX ⊢
 obtain ⟨q3,hq3⟩:∃ q,q=W.heap.size + 1 + 1 + 1:=⟨_,rfl⟩
 rw [← hq3] at HBX ⊢
 obtain ⟨q2,hq2⟩:∃ q,q=W.heap.size + 1 + 1:=⟨_,rfl⟩
 rw [← hq2] at HBX ⊢
 obtain ⟨q1,hq1⟩:∃ q,q=W.heap.size + 1:=⟨_,rfl⟩
 rw [← hq1]
 obtain ⟨q0,hq0⟩:∃ q,q=W.heap.size:=⟨_,rfl⟩
 rw [← hq0] at HBX
 rw [show Value.pointer (some ⟨W.heap.size,0,none⟩)=Value.pointer (some ⟨q0,0,none⟩) by rw [hq0]]
 have HQ:Hid (W.heap.size≤q0∧q0 < q2∧q2 < q3∧q3 < q4∧q4 < q5∧q5 < W0.heap.size):=by unfold Hid;omega
 clear hq0 hq1 hq2 hq3 hq4 hq5 hsz
 obtain ⟨xs,hxs⟩:∃ xs,xs=argsA l l':=⟨_,rfl⟩
 obtain ⟨ys,hys⟩:∃ ys,ys=sgA (l,l'):=⟨_,rfl⟩
 have hSQ:=sgn_at (n0:=8) (p:=q5) (c:=c1) (c':=c2) (A:=A1) (A':=A2) (l:=l) (l':=l') HP.out.b.1 HP.out.b.2
 rw [← hxs] at hSQ
 have HXL:Hid (xs.length=ys.length):=by rw [hxs,hys];unfold argsA Hid;simp
 have HXS:Hid (∀ k y,xs[k]? = some y → ∃ z,ys[k]? = some z∧y=argA z∧z.1.2.1.size≤2000000):=fun k y hk=>by
  rw [hxs] at hk
  obtain ⟨z,h1,h2⟩:=args_at hk
  rw [hys]
  exact ⟨z,h1,h2,(HP.out.s _ (sg_mem h1)).2⟩
 have HRS:Hid (res=T.vecGo ys V8.z):=by rw [← HRS0.out,hys];rfl
 clear hxs hys
 refine wpIn_range_mk (gf:=59) (lb:=#[.pointer (some ⟨q5,0,none⟩)]) rfl (by decide) rfl trivial (enters_of Tryz.func59 (by kernel_rfl) rfl) (xs:=xs) hSQ (fun k y hy=>by obtain ⟨z,_,rfl,_⟩:=HXS.out k y hy;rfl)
  (fun k V=>∃ v,res=T.vecGo (ys.drop k) v∧VBox q0 q2 q3 q4 q5 p A1 n1 c1 A2 n2 c2 A3 n3 c3 v V∧Below W.heap.size W V)
  (fun c _ V=>c = .ret∧res=none∧At V q2 V8.z.c∧At V q3 [.bool false]∧Below W.heap.size W V)
  ?hI ?hIx (fun k V hh=>by obtain ⟨v,_,h2,h3⟩:=hh;exact HP.out.sg h3 h2.b5) ⟨V8.z,by rw [List.drop_zero];exact HRS.out,HBX,hB0⟩ (fun y=>(y.getD 0 undef).cells.toList) 96
  (fun y b=>{ tmps:=#[.pointer (some ⟨p,0,none⟩),.agg #[.slice A1 n1 c1,.slice A2 n2 c2,.slice A3 n3 c3],.pointer (some ⟨q0,0,none⟩),.pointer (some ⟨q1,0,none⟩),.pointer (some ⟨q2,0,none⟩),.pointer (some ⟨q3,0,none⟩),.pointer (some ⟨q4,0,none⟩),.pointer (some ⟨b,0,none⟩),y.getD 1 undef,undef,undef,undef,.agg #[.slice A1 n1 c1,.slice A2 n2 c2,.slice A3 n3 c3],.func (.func 59) #[] #[.pointer (some ⟨q5,0,none⟩)],y.getD 0 undef,y.getD 1 undef,undef,undef,undef,undef,undef,undef,undef,undef,undef,undef,undef,undef,undef,undef,undef,undef,undef,undef,undef,undef,undef,undef,undef,undef,undef,undef,undef,undef,undef,undef,undef,undef,undef,undef,undef,undef,undef,undef,undef,undef],defers:=[] }) ?assign ?body ?done ?stop
 case hI =>
  rintro k V V' row ⟨v,h1,h2,h3⟩ hg hrow
  have hq:=HQ.out
  exact ⟨v,h1,h2.own (d:=W0.heap.size) hg (by omega) (fun r e=>(hrow r e).1),h3.grown hg h3.size (fun r e=>by have:=(hrow r e).1;omega)⟩
 case hIx =>
  rintro c k V V' row ⟨rfl,h1,h2,h3,h4⟩ hg hrow
  have hq:=HQ.out
  exact ⟨rfl,h1,h2.own hg (fun r e=>by have:=(hrow r e).1;omega),h3.own hg (fun r e=>by have:=(hrow r e).1;omega),h4.grown hg h4.size (fun r e=>by have:=(hrow r e).1;omega)⟩
 case assign =>
  intro li k y V K hy hK
  obtain ⟨z,_,rfl,_⟩:=HXS.out k y hy
  unfold argA at hK ⊢
  gi_wp2
  exact hK
 case body =>
  rintro li k y V b ⟨v0,hv0,hbx,hbel⟩ hy hbq hAb
  obtain ⟨⟨⟨ap,an,pw⟩,sg⟩,hz,rfl,hsz⟩:=HXS.out k y hy
  have hdr:ys.drop k=(((ap,an,pw),sg):AL × Int) :: ys.drop (k + 1):=by
   rw [List.drop_eq_getElem_cons (List.getElem?_eq_some_iff.1 hz).1,(List.getElem?_eq_some_iff.1 hz).2]
  rw [hdr] at hv0
  replace hAb:At V b [.string ap,.string an,.int .i64 pw]:=hAb
  have hTV:=HT.out.up hbel
  obtain ⟨nm,id,ba,s1,B1,m1,d1,B2,m2,d2,s2,B3,m3,d3,B4,m4,d4,ho,v,k1,_,hent,_⟩:=hTV.look (s:=an) (Nat.le_trans hsz (by decide))
  have hlk:res=(match lookL T.ents an with | none=>none | some m=>if V8.mulB v pw=true then (if V8.addB v0 (V8.mulR (V8.mulR v pw) sg)=true then T.vecGo (ys.drop (k + 1)) (V8.addR v0 (V8.mulR (V8.mulR v pw) sg)) else none) else none):=by
   rw [hv0]
   cases hl:lookL T.ents an with
   | none=>exact vec_none hl
   | some m=>rw [(hent m hl).2.2.2.2.1];exact vec_step hl
  have HS:Hid (∀ w':World,Below V.heap.size V w'→w'.cell? ⟨q0,0,none⟩=some (.pointer (some ⟨p,0,none⟩))∧w'.cell? ⟨p,2,none⟩=some (.map (some x.b1))∧w'.cell? ⟨b,1,none⟩=some (.string an)∧(Instr.lookup 84 (.map (some x.b1)) (.string an) true).run Tryz.prog w' = .ok (.tuple #[mV nm id ba s1 B1 m1 d1 B2 m2 d2 s2 B3 m3 d3 B4 m4 d4 ho v,.bool (lookL T.ents an).isSome]) w'):=fun w' hw =>
   ⟨(hw.cell hbx.b0.lt).trans hbx.b0.c0,(hw.cell hTV.lt).trans hTV.c2,(hw.cell hAb.lt).trans hAb.c1,k1 w' (Turn.of hw)⟩
  have HAB:=khide hAb
  have HBX2:=khide hbx
  have HBL:=khide hbel
  have HBQ:=khide hbq
  clear hTV k1 hent hz hy hdr hv0 hAb hbx hbel hbq hsz
  cases hlo:lookL T.ents an with
  | none =>
    rw [hlo] at HS hlk
    have HN:Hid (res=none):=hlk
    clear hlk hlo
    rw [show (argA ((ap,an,pw),sg)).getD 1 undef = .int .i64 sg from rfl,show (argA ((ap,an,pw),sg)).getD 0 undef = .agg #[.string ap,.string an,.int .i64 pw] from rfl]
    gi_wp2_with fail
    refine wpIn_region_held_drew (S:=fun w'=>w'.cell? ⟨q0,0,none⟩=some (.pointer (some ⟨p,0,none⟩))∧w'.cell? ⟨p,2,none⟩=some (.map (some x.b1))∧w'.cell? ⟨b,1,none⟩=some (.string an)∧(Instr.lookup 84 (.map (some x.b1)) (.string an) true).run Tryz.prog w' = .ok (.tuple #[mV nm id ba s1 B1 m1 d1 B2 m2 d2 s2 B3 m3 d3 B4 m4 d4 ho v,.bool false]) w') (by kernel_rfl) (by rfl) (fun ⟨_,_,h⟩=>h) (HS.out _ ((Below.refl _ _).drew)) (fun hHeld=>?_)
    refine tq 0 ?_
    refine tq 1 ?_
    refine tq 2 ?_
    refine tq 3 ?_
    refine tq 4 ?_
    refine tq 5 ?_
    refine tq 6 ?_
    refine tq 7 ?_
    refine tq 8 ?_
    refine tq 9 ?_
    (refine sk 10 (fun K hK=>?_);go_simp;refine hK.out _ _ ?_ (fun hHeld=>?_);(focus ((try dsimp only);exact HS.out _ (by first | exact (Below.refl _ _).drew | exact ((Below.refl _ _).alloc (Nat.le_refl _) _).drew | exact ((Below.refl _ _).drew).alloc (Nat.le_refl _) _)));clear hK K;(try simp only [lay7,Act.put]))
    (refine sk 11 (fun K hK=>?_);refine if_plain rfl ?_;refine wp_store_newd 98 [.string nm,.string id,.int .i64 ba,.bool s1,.slice B1 m1 d1,.slice B2 m2 d2,.bool s2,.slice B3 m3 d3,.slice B4 m4 d4,.bool ho,.int .i64 v.x0,.int .i64 v.x1,.int .i64 v.x2,.int .i64 v.x3,.int .i64 v.x4,.int .i64 v.x5,.int .i64 v.x6,.int .i64 v.x7] (.tmp 9) (.tmp 24) _ rfl rfl rfl (by kernel_rfl) rfl rfl ?_;refine hK.out _ _ ?_ (fun hHeld=>?_);(focus (exact HS.out _ (by first | exact (Below.refl _ _).drew | exact ((Below.refl _ _).alloc (Nat.le_refl _) _).drew | exact ((Below.refl _ _).drew).alloc (Nat.le_refl _) _)));clear hK K;(try simp only [lay7,Act.put]))
    refine tq 12 ?_
    refine wpAnyH_done (by decide +kernel) ?_ _
    refine name_at ?_
    intro V1 hV1
    have hb1:Hid (Below V.heap.size V V1):=by rw [hV1];exact ((Below.refl _ _).alloc (Nat.le_refl _) _).drew
    have hbx1:=HBX2.out.up hb1
    have hk1:KeepsOthers V V1:=ko_bel hb1
    have hbel1:Below W.heap.size W V1:=HBL.out.trans (hb1.out.mono HBL.out.size)
    clear hV1 hHeld
    have n23:q2 ≠ q3:=by have:=HQ.out;omega
    have n32:q3 ≠ q2:=by have:=HQ.out;omega
    have z0:=hbx1.b2.v8;have z1:=hbx1.b2.f8;have z2:=hbx1.b3.f0;have z3:=hbx1.b3.c0;have z4:=hbx1.b2.lt;have z5:=hbx1.b3.lt
    obtain ⟨y0,y1,y2,y3,y4,y5,y6,y7⟩:=z0
    obtain ⟨f0,f1,f2,f3,f4,f5,f6,f7⟩:=z1
    gi_wp2
    exact hbx1.out hk1 HN.out hbel1 (by have:=HQ.out;omega) (by have:=HQ.out;omega) (by have:=HQ.out;omega)
  | some m =>
    rw [hlo] at HS hlk
    have HN:Hid (res=if V8.mulB v pw=true then (if V8.addB v0 (V8.mulR (V8.mulR v pw) sg)=true then T.vecGo (ys.drop (k + 1)) (V8.addR v0 (V8.mulR (V8.mulR v pw) sg)) else none) else none):=hlk
    clear hlk hlo
    obtain ⟨p1,hp1⟩:∃ u,V8.mulR v pw=u:=⟨_,rfl⟩
    obtain ⟨p2,hp2⟩:∃ u,V8.mulR p1 sg=u:=⟨_,rfl⟩
    obtain ⟨o1,ho1⟩:∃ u,V8.mulB v pw=u:=⟨_,rfl⟩
    obtain ⟨o2,ho2⟩:∃ u,V8.mulB p1 sg=u:=⟨_,rfl⟩
    obtain ⟨p3,hp3⟩:∃ u,V8.addR v0 p2=u:=⟨_,rfl⟩
    obtain ⟨o3,ho3⟩:∃ u,V8.addB v0 p2=u:=⟨_,rfl⟩
    rw [hp1,hp2,ho1,ho3,hp3] at HN
    have C1:Hid (∀ X:World,CallsIn Fence.wide 6 Tryz.prog 33 #[v.v,.int .i64 pw] X (RetVV X p1 o1)):=fun X=>callsIn_wide.2 (by have:=Go.Proofs.YtfflmmbhpchloaaGreatDoor.V.times_h v pw X;rwa [hp1,ho1] at this)
    have C2:Hid (∀ X:World,CallsIn Fence.wide 6 Tryz.prog 33 #[p1.v,.int .i64 sg] X (RetVV X p2 o2)):=fun X=>callsIn_wide.2 (by have:=Go.Proofs.YtfflmmbhpchloaaGreatDoor.V.times_h p1 sg X;rwa [hp2,ho2] at this)
    have C3:Hid (∀ X:World,CallsIn Fence.wide 6 Tryz.prog 34 #[v0.v,p2.v] X (RetVV X p3 o3)):=fun X=>callsIn_wide.2 (by have:=Go.Proofs.YtfflmmbhpchloaaGreatDoor.V.add_h v0 p2 X;rwa [hp3,ho3] at this)
    clear hp1 hp2 ho1 ho2 hp3 ho3
    rw [show (argA ((ap,an,pw),sg)).getD 1 undef = .int .i64 sg from rfl,show (argA ((ap,an,pw),sg)).getD 0 undef = .agg #[.string ap,.string an,.int .i64 pw] from rfl]
    gi_wp2_with fail
    refine wpIn_region_held_drew (S:=fun w'=>w'.cell? ⟨q0,0,none⟩=some (.pointer (some ⟨p,0,none⟩))∧w'.cell? ⟨p,2,none⟩=some (.map (some x.b1))∧w'.cell? ⟨b,1,none⟩=some (.string an)∧(Instr.lookup 84 (.map (some x.b1)) (.string an) true).run Tryz.prog w' = .ok (.tuple #[mV nm id ba s1 B1 m1 d1 B2 m2 d2 s2 B3 m3 d3 B4 m4 d4 ho v,.bool true]) w') (by kernel_rfl) (by rfl) (fun ⟨_,_,h⟩=>h) (HS.out _ ((Below.refl _ _).drew)) (fun hHeld=>?_)
    refine tq 0 ?_
    refine tq 1 ?_
    refine tq 2 ?_
    refine tq 3 ?_
    refine tq 4 ?_
    refine tq 5 ?_
    refine tq 6 ?_
    refine tq 7 ?_
    refine tq 8 ?_
    refine tq 9 ?_
    (refine sk 10 (fun K hK=>?_);go_simp;refine hK.out _ _ ?_ (fun hHeld=>?_);(focus ((try dsimp only);exact HS.out _ (by first | exact (Below.refl _ _).drew | exact ((Below.refl _ _).alloc (Nat.le_refl _) _).drew | exact ((Below.refl _ _).drew).alloc (Nat.le_refl _) _)));clear hK K;(try simp only [lay7,Act.put]))
    (refine sk 11 (fun K hK=>?_);refine if_plain rfl ?_;refine wp_store_newd 98 [.string nm,.string id,.int .i64 ba,.bool s1,.slice B1 m1 d1,.slice B2 m2 d2,.bool s2,.slice B3 m3 d3,.slice B4 m4 d4,.bool ho,.int .i64 v.x0,.int .i64 v.x1,.int .i64 v.x2,.int .i64 v.x3,.int .i64 v.x4,.int .i64 v.x5,.int .i64 v.x6,.int .i64 v.x7] (.tmp 9) (.tmp 24) _ rfl rfl rfl (by kernel_rfl) rfl rfl ?_;refine hK.out _ _ ?_ (fun hHeld=>?_);(focus (exact HS.out _ (by first | exact (Below.refl _ _).drew | exact ((Below.refl _ _).alloc (Nat.le_refl _) _).drew | exact ((Below.refl _ _).drew).alloc (Nat.le_refl _) _)));clear hK K;(try simp only [lay7,Act.put]))
    refine tq 12 ?_
    refine wpAnyH_done (by decide +kernel) ?_ _
    refine name_at ?_
    intro V1 hV1
    have hb1:Hid (Below V.heap.size V V1):=by rw [hV1];exact ((Below.refl _ _).alloc (Nat.le_refl _) _).drew
    have hbx1:=HBX2.out.up hb1
    have hk1:KeepsOthers V V1:=ko_bel hb1
    have hbel1:Below W.heap.size W V1:=HBL.out.trans (hb1.out.mono HBL.out.size)
    have HM1:At V1 V.heap.size [.string nm,.string id,.int .i64 ba,.bool s1,.slice B1 m1 d1,.slice B2 m2 d2,.bool s2,.slice B3 m3 d3,.slice B4 m4 d4,.bool ho,.int .i64 v.x0,.int .i64 v.x1,.int .i64 v.x2,.int .i64 v.x3,.int .i64 v.x4,.int .i64 v.x5,.int .i64 v.x6,.int .i64 v.x7]:=by rw [hV1];exact (at_new0 _ _ _).dr
    have ha1:=HAB.out.up hb1
    clear hV1 hHeld
    have m10:=HM1.ci (i:=10) rfl;have m11:=HM1.ci (i:=11) rfl;have m12:=HM1.ci (i:=12) rfl;have m13:=HM1.ci (i:=13) rfl;have m14:=HM1.ci (i:=14) rfl;have m15:=HM1.ci (i:=15) rfl;have m16:=HM1.ci (i:=16) rfl;have m17:=HM1.ci (i:=17) rfl
    have g2:=ha1.c2
    clear HS HM1 ha1
    have n23:q2 ≠ q3:=by have:=HQ.out;omega
    have n32:q3 ≠ q2:=by have:=HQ.out;omega
    have n42:q4 ≠ q2:=by have:=HQ.out;omega
    have n43:q4 ≠ q3:=by have:=HQ.out;omega
    obtain ⟨y0,y1,y2,y3,y4,y5,y6,y7⟩:=hbx1.b2.v8
    obtain ⟨f0,f1,f2,f3,f4,f5,f6,f7⟩:=hbx1.b2.f8
    have z2:=hbx1.b3.f0
    have z3:=hbx1.b3.c0
    have z4:=hbx1.b2.lt
    have z5:=hbx1.b3.lt
    cases o1
    ·gi_wp2_with (first
     | (refine ⟨trivial,?_⟩;gi_at_call 33;(with_reducible refine (CallsIn.inRound li (C1.out _)).mono ?_);rintro e w2 ⟨rfl,hb2⟩;have hbx2:=hbx1.up hb2;have hbel2:Below W.heap.size W w2:=hbel1.trans (hb2.out.mono hbel1.size);have hk2:KeepsOthers V w2:=ko_up hk1 hb2;clear m10 m11 m12 m13 m14 m15 m16 m17 g2 y0 y1 y2 y3 y4 y5 y6 y7 f0 f1 f2 f3 f4 f5 f6 f7 z2 z3 z4 z5;obtain ⟨y0,y1,y2,y3,y4,y5,y6,y7⟩:=hbx2.b2.v8;obtain ⟨f0,f1,f2,f3,f4,f5,f6,f7⟩:=hbx2.b2.f8;have z2:=hbx2.b3.f0;have z3:=hbx2.b3.c0;have z4:=hbx2.b2.lt;have z5:=hbx2.b3.lt;have hl2:=hb2.out.size)
     | (refine ⟨trivial,?_⟩;gi_at_call 33;(with_reducible refine (CallsIn.inRound li (C2.out _)).mono ?_);rintro e w3 ⟨rfl,hb3⟩;have hp3:=At.up (at_new0 w2 p1.c 36) hb3;have hbx3:=(hbx2.up ((Below.refl _ _).alloc (Nat.le_refl _) (.cells p1.c.toArray 36))).up hb3;have hbel3:Below W.heap.size W w3:=(hbel2.alloc hbel2.size _).trans (hb3.out.mono (Nat.le_trans hbel2.size (by simp)));have hk3:KeepsOthers V w3:=ko_up (ko_up hk2 ((Below.refl _ _).alloc (Nat.le_refl _) (.cells p1.c.toArray 36))) hb3;have hne3:w2.heap.size ≠ q0∧w2.heap.size ≠ q2∧w2.heap.size ≠ q3∧w2.heap.size ≠ q4∧w2.heap.size ≠ q5:=(by (have:=hbx2.b0.lt;have:=hbx2.b2.lt;have:=hbx2.b3.lt;have:=hbx2.b4.lt;have:=hbx2.b5.lt;omega));obtain ⟨r0,r1,r2,r3,r4,r5,r6,r7⟩:=hp3.v8;obtain ⟨u0,u1,u2,u3,u4,u5,u6,u7⟩:=hp3.f8;obtain ⟨x0,x1,x2,x3,x4,x5,x6,x7⟩:=hbx3.b4.v8;have ne4:=hne3.2.2.2.1)
     | (refine ⟨trivial,?_⟩;gi_at_call 34;(with_reducible refine (CallsIn.inRound li (C3.out _)).mono ?_);rintro e w4 ⟨rfl,hb4⟩;have hbx4:=(hbx3.far8 (u:=p2) hne3).up hb4;have hbel4:Below W.heap.size W w4:=(below_set8 (u:=p2) hbel3 (Nat.le_trans hbel2.size (Nat.le_refl _))).trans (hb4.out.mono (Nat.le_trans hbel3.size (by simp [World.setCell])));have hk4:KeepsOthers V w4:=ko_up (ko_s8 (u:=p2) hk3) hb4;clear y0 y1 y2 y3 y4 y5 y6 y7 f0 f1 f2 f3 f4 f5 f6 f7 z2 z3 z4 z5 r0 r1 r2 r3 r4 r5 r6 r7 u0 u1 u2 u3 u4 u5 u6 u7 x0 x1 x2 x3 x4 x5 x6 x7;obtain ⟨y0,y1,y2,y3,y4,y5,y6,y7⟩:=hbx4.b2.v8;obtain ⟨f0,f1,f2,f3,f4,f5,f6,f7⟩:=hbx4.b2.f8;have z2:=hbx4.b3.f0;have z3:=hbx4.b3.c0;have z4:=hbx4.b2.lt;have z5:=hbx4.b3.lt;obtain ⟨x0,x1,x2,x3,x4,x5,x6,x7⟩:=hbx4.b4.v8;obtain ⟨u0,u1,u2,u3,u4,u5,u6,u7⟩:=hbx4.b4.f8)
     | fail)
     exact hbx2.outA hk2 (by rw [HN.out];rfl) hbel2 (by have:=HQ.out;omega) (by have:=HQ.out;omega) (by have:=HQ.out;omega)
    ·cases o3
     ·gi_wp2_with (first
      | (refine ⟨trivial,?_⟩;gi_at_call 33;(with_reducible refine (CallsIn.inRound li (C1.out _)).mono ?_);rintro e w2 ⟨rfl,hb2⟩;have hbx2:=hbx1.up hb2;have hbel2:Below W.heap.size W w2:=hbel1.trans (hb2.out.mono hbel1.size);have hk2:KeepsOthers V w2:=ko_up hk1 hb2;clear m10 m11 m12 m13 m14 m15 m16 m17 g2 y0 y1 y2 y3 y4 y5 y6 y7 f0 f1 f2 f3 f4 f5 f6 f7 z2 z3 z4 z5;obtain ⟨y0,y1,y2,y3,y4,y5,y6,y7⟩:=hbx2.b2.v8;obtain ⟨f0,f1,f2,f3,f4,f5,f6,f7⟩:=hbx2.b2.f8;have z2:=hbx2.b3.f0;have z3:=hbx2.b3.c0;have z4:=hbx2.b2.lt;have z5:=hbx2.b3.lt;have hl2:=hb2.out.size)
      | (refine ⟨trivial,?_⟩;gi_at_call 33;(with_reducible refine (CallsIn.inRound li (C2.out _)).mono ?_);rintro e w3 ⟨rfl,hb3⟩;have hp3:=At.up (at_new0 w2 p1.c 36) hb3;have hbx3:=(hbx2.up ((Below.refl _ _).alloc (Nat.le_refl _) (.cells p1.c.toArray 36))).up hb3;have hbel3:Below W.heap.size W w3:=(hbel2.alloc hbel2.size _).trans (hb3.out.mono (Nat.le_trans hbel2.size (by simp)));have hk3:KeepsOthers V w3:=ko_up (ko_up hk2 ((Below.refl _ _).alloc (Nat.le_refl _) (.cells p1.c.toArray 36))) hb3;have hne3:w2.heap.size ≠ q0∧w2.heap.size ≠ q2∧w2.heap.size ≠ q3∧w2.heap.size ≠ q4∧w2.heap.size ≠ q5:=(by (have:=hbx2.b0.lt;have:=hbx2.b2.lt;have:=hbx2.b3.lt;have:=hbx2.b4.lt;have:=hbx2.b5.lt;omega));obtain ⟨r0,r1,r2,r3,r4,r5,r6,r7⟩:=hp3.v8;obtain ⟨u0,u1,u2,u3,u4,u5,u6,u7⟩:=hp3.f8;obtain ⟨x0,x1,x2,x3,x4,x5,x6,x7⟩:=hbx3.b4.v8;have ne4:=hne3.2.2.2.1)
      | (refine ⟨trivial,?_⟩;gi_at_call 34;(with_reducible refine (CallsIn.inRound li (C3.out _)).mono ?_);rintro e w4 ⟨rfl,hb4⟩;have hbx4:=(hbx3.far8 (u:=p2) hne3).up hb4;have hbel4:Below W.heap.size W w4:=(below_set8 (u:=p2) hbel3 (Nat.le_trans hbel2.size (Nat.le_refl _))).trans (hb4.out.mono (Nat.le_trans hbel3.size (by simp [World.setCell])));have hk4:KeepsOthers V w4:=ko_up (ko_s8 (u:=p2) hk3) hb4;clear y0 y1 y2 y3 y4 y5 y6 y7 f0 f1 f2 f3 f4 f5 f6 f7 z2 z3 z4 z5 r0 r1 r2 r3 r4 r5 r6 r7 u0 u1 u2 u3 u4 u5 u6 u7 x0 x1 x2 x3 x4 x5 x6 x7;obtain ⟨y0,y1,y2,y3,y4,y5,y6,y7⟩:=hbx4.b2.v8;obtain ⟨f0,f1,f2,f3,f4,f5,f6,f7⟩:=hbx4.b2.f8;have z2:=hbx4.b3.f0;have z3:=hbx4.b3.c0;have z4:=hbx4.b2.lt;have z5:=hbx4.b3.lt;obtain ⟨x0,x1,x2,x3,x4,x5,x6,x7⟩:=hbx4.b4.v8;obtain ⟨u0,u1,u2,u3,u4,u5,u6,u7⟩:=hbx4.b4.f8)
      | fail)
      exact (hbx4.put8 (u:=p3) (by have:=HQ.out;omega)).out (ko_s8 hk4) (by rw [HN.out];rfl) (below_set8 hbel4 (by have:=HQ.out;omega)) (by have:=HQ.out;omega) (by have:=HQ.out;omega) (by have:=HQ.out;omega)
     ·gi_wp2_with (first
      | (refine ⟨trivial,?_⟩;gi_at_call 33;(with_reducible refine (CallsIn.inRound li (C1.out _)).mono ?_);rintro e w2 ⟨rfl,hb2⟩;have hbx2:=hbx1.up hb2;have hbel2:Below W.heap.size W w2:=hbel1.trans (hb2.out.mono hbel1.size);have hk2:KeepsOthers V w2:=ko_up hk1 hb2;clear m10 m11 m12 m13 m14 m15 m16 m17 g2 y0 y1 y2 y3 y4 y5 y6 y7 f0 f1 f2 f3 f4 f5 f6 f7 z2 z3 z4 z5;obtain ⟨y0,y1,y2,y3,y4,y5,y6,y7⟩:=hbx2.b2.v8;obtain ⟨f0,f1,f2,f3,f4,f5,f6,f7⟩:=hbx2.b2.f8;have z2:=hbx2.b3.f0;have z3:=hbx2.b3.c0;have z4:=hbx2.b2.lt;have z5:=hbx2.b3.lt;have hl2:=hb2.out.size)
      | (refine ⟨trivial,?_⟩;gi_at_call 33;(with_reducible refine (CallsIn.inRound li (C2.out _)).mono ?_);rintro e w3 ⟨rfl,hb3⟩;have hp3:=At.up (at_new0 w2 p1.c 36) hb3;have hbx3:=(hbx2.up ((Below.refl _ _).alloc (Nat.le_refl _) (.cells p1.c.toArray 36))).up hb3;have hbel3:Below W.heap.size W w3:=(hbel2.alloc hbel2.size _).trans (hb3.out.mono (Nat.le_trans hbel2.size (by simp)));have hk3:KeepsOthers V w3:=ko_up (ko_up hk2 ((Below.refl _ _).alloc (Nat.le_refl _) (.cells p1.c.toArray 36))) hb3;have hne3:w2.heap.size ≠ q0∧w2.heap.size ≠ q2∧w2.heap.size ≠ q3∧w2.heap.size ≠ q4∧w2.heap.size ≠ q5:=(by (have:=hbx2.b0.lt;have:=hbx2.b2.lt;have:=hbx2.b3.lt;have:=hbx2.b4.lt;have:=hbx2.b5.lt;omega));obtain ⟨r0,r1,r2,r3,r4,r5,r6,r7⟩:=hp3.v8;obtain ⟨u0,u1,u2,u3,u4,u5,u6,u7⟩:=hp3.f8;obtain ⟨x0,x1,x2,x3,x4,x5,x6,x7⟩:=hbx3.b4.v8;have ne4:=hne3.2.2.2.1)
      | (refine ⟨trivial,?_⟩;gi_at_call 34;(with_reducible refine (CallsIn.inRound li (C3.out _)).mono ?_);rintro e w4 ⟨rfl,hb4⟩;have hbx4:=(hbx3.far8 (u:=p2) hne3).up hb4;have hbel4:Below W.heap.size W w4:=(below_set8 (u:=p2) hbel3 (Nat.le_trans hbel2.size (Nat.le_refl _))).trans (hb4.out.mono (Nat.le_trans hbel3.size (by simp [World.setCell])));have hk4:KeepsOthers V w4:=ko_up (ko_s8 (u:=p2) hk3) hb4;clear y0 y1 y2 y3 y4 y5 y6 y7 f0 f1 f2 f3 f4 f5 f6 f7 z2 z3 z4 z5 r0 r1 r2 r3 r4 r5 r6 r7 u0 u1 u2 u3 u4 u5 u6 u7 x0 x1 x2 x3 x4 x5 x6 x7;obtain ⟨y0,y1,y2,y3,y4,y5,y6,y7⟩:=hbx4.b2.v8;obtain ⟨f0,f1,f2,f3,f4,f5,f6,f7⟩:=hbx4.b2.f8;have z2:=hbx4.b3.f0;have z3:=hbx4.b3.c0;have z4:=hbx4.b2.lt;have z5:=hbx4.b3.lt;obtain ⟨x0,x1,x2,x3,x4,x5,x6,x7⟩:=hbx4.b4.v8;obtain ⟨u0,u1,u2,u3,u4,u5,u6,u7⟩:=hbx4.b4.f8)
      | fail)
      exact ⟨ko_s8 hk4,p3,by rw [HN.out];rfl,hbx4.put8 (by have:=HQ.out;omega),below_set8 hbel4 (by have:=HQ.out;omega)⟩
 case done =>
  rintro D V hD ⟨v,h1,h2,h3⟩ hK
  have HR:Hid (res=some v):=by rw [h1,List.drop_of_length_le (by rw [HXL.out];exact Nat.le_refl _)];rfl
  have n23:q2 ≠ q3:=by have:=HQ.out;omega
  have n32:q3 ≠ q2:=by have:=HQ.out;omega
  obtain ⟨y0,y1,y2,y3,y4,y5,y6,y7⟩:=h2.b2.v8
  obtain ⟨f0,f1,f2,f3,f4,f5,f6,f7⟩:=h2.b2.f8
  obtain ⟨x0,x1,x2,x3,x4,x5,x6,x7⟩:=h2.b4.v8
  have z2:=h2.b3.f0
  have z3:=h2.b3.c0
  have z4:=h2.b2.lt
  have z5:=h2.b3.lt
  have HK:=khide hK
  clear h1 hK
  gi_wp2
  obtain ⟨X,hX⟩:∃ X,X=(set8 V q2 v).setCell ⟨q3,0,none⟩ (.bool true):=⟨_,rfl⟩
  have e2:At X q2 v.c:=by rw [hX];exact (at_s8 h2.b2).far n32 _
  have e3:At X q3 [.bool true]:=by rw [hX];exact (h2.b3.farS n23).put (i:=0) (by simp) _
  have hBX:Below W.heap.size W X:=by rw [hX];exact (below_set8 h3 (by have:=HQ.out;omega)).setCell (by have:=HQ.out;show W.heap.size≤q3;omega) _
  have hKX:X.heap[D]? = some (.deferred (some [])):=by rw [hX];exact ((ko_s8 (KeepsOthers.refl V)).trans (KeepsOthers.setCell _ _ _)).same D _ HK.out rfl
  rw [← hX]
  refine ⟨by simp,.inl ⟨_,_,rfl,run_takeDeferred hKX,?_⟩⟩
  obtain ⟨Y,hY⟩:∃ Y,Y=X.putObj D (.deferred none):=⟨_,rfl⟩
  have g2:At Y q2 (V8.c v):=by rw [hY];exact e2.own (grownBy_putObj' X D _) (fun r e=>by cases e;have:=HQ.out;omega)
  have g3:At Y q3 [.bool true]:=by rw [hY];exact e3.own (grownBy_putObj' X D _) (fun r e=>by cases e;have:=HQ.out;omega)
  have hBY:Below W.heap.size W Y:=by rw [hY];exact hBX.grown (grownBy_putObj' X D _) hBX.size (fun r e=>by cases e;have:=HQ.out;omega)
  rw [← hY]
  obtain ⟨w0,w1,w2,w3,w4,w5,w6,w7⟩:=g2.v8
  have w8:=g3.c0
  refine ⟨.tuple #[V8.v v,.bool true],by simp [results,Tryz.results12,go_sem,w0,w1,w2,w3,w4,w5,w6,w7,w8],?_⟩
  exact ⟨by rw [HR.out];rfl,hBY⟩
 case stop =>
  rintro D c k V hD ⟨rfl,h1,h2,h3,h4⟩ hK
  have HR:=khide h1
  have HK:=khide hK
  clear h1 hK
  gi_wp2
  obtain ⟨X,hX⟩:∃ X,X=V:=⟨_,rfl⟩
  rw [← hX] at h2 h3 h4 HK ⊢
  have e2:=h2
  have e3:=h3
  have hBX:=h4
  refine ⟨by simp,.inl ⟨_,_,rfl,run_takeDeferred HK.out,?_⟩⟩
  obtain ⟨Y,hY⟩:∃ Y,Y=X.putObj D (.deferred none):=⟨_,rfl⟩
  have g2:At Y q2 (V8.c V8.z):=by rw [hY];exact e2.own (grownBy_putObj' X D _) (fun r e=>by cases e;have:=HQ.out;omega)
  have g3:At Y q3 [.bool false]:=by rw [hY];exact e3.own (grownBy_putObj' X D _) (fun r e=>by cases e;have:=HQ.out;omega)
  have hBY:Below W.heap.size W Y:=by rw [hY];exact hBX.grown (grownBy_putObj' X D _) hBX.size (fun r e=>by cases e;have:=HQ.out;omega)
  rw [← hY]
  obtain ⟨w0,w1,w2,w3,w4,w5,w6,w7⟩:=g2.v8
  have w8:=g3.c0
  refine ⟨.tuple #[V8.v V8.z,.bool false],by simp [results,Tryz.results12,go_sem,w0,w1,w2,w3,w4,w5,w6,w7,w8],?_⟩
  exact ⟨by rw [HR.out];rfl,hBY⟩
end
end Go.Proofs.YtfflmmbhpchloaaGreatDoor
end
