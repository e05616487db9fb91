/- Each theorem here says its own conditions. -/
import Derived.Test.YtfflmmbhpchloaaGreatDoorTab
set_option maxRecDepth 100000
set_option maxHeartbeats 16000000
section
open Go.RowKit
open Go.Proofs.YtfflmmbhpchloaaGreatDoor.V
namespace Go.Proofs.YtfflmmbhpchloaaGreatDoor
section
variable {W:World} {q:Nat} {v0 v1 v2 v3 v4 v5 v6 v7 v8 v9:Value}
theorem ent_put3 (h:At W q [v0,v1,v2,v3,v4,v5,v6,v7,v8,v9]) (a b c:Value):At (((W.setCell ⟨q,3,none⟩ a).setCell ⟨q,4,none⟩ b).setCell ⟨q,5,none⟩ c) q [v0,v1,v2,a,b,c,v6,v7,v8,v9] :=
 ((h.put (i:=3) (by simp) a).put (i:=4) (by simp) b).put (i:=5) (by simp) c
theorem ent_put6 (h:At W q [v0,v1,v2,v3,v4,v5,v6,v7,v8,v9]) (a b c:Value):At (((W.setCell ⟨q,6,none⟩ a).setCell ⟨q,7,none⟩ b).setCell ⟨q,8,none⟩ c) q [v0,v1,v2,v3,v4,v5,a,b,c,v9] :=
 ((h.put (i:=6) (by simp) a).put (i:=7) (by simp) b).put (i:=8) (by simp) c
theorem ku_put3 {b3:Bool} {X4 X5:Option Addr} {n4 c4 n5 c5:Nat} (h:At W q [v0,v1,v2,.bool b3,.slice X4 n4 c4,.slice X5 n5 c5,v6,v7,v8,v9]) (a b c:Value):KU W (((W.setCell ⟨q,3,none⟩ a).setCell ⟨q,4,none⟩ b).setCell ⟨q,5,none⟩ c) :=
 ((KU.set (at_nth h 3 rfl) (fun x e=>by cases e)).trans (KU.set (at_nth (h.put (i:=3) (by simp) a) 4 rfl) (fun x e=>by cases e))).trans (KU.set (at_nth ((h.put (i:=3) (by simp) a).put (i:=4) (by simp) b) 5 rfl) (fun x e=>by cases e))
theorem ku_put6 {b3:Bool} {X4 X5:Option Addr} {n4 c4 n5 c5:Nat} (h:At W q [v0,v1,v2,v3,v4,v5,.bool b3,.slice X4 n4 c4,.slice X5 n5 c5,v9]) (a b c:Value):KU W (((W.setCell ⟨q,6,none⟩ a).setCell ⟨q,7,none⟩ b).setCell ⟨q,8,none⟩ c) :=
 ((KU.set (at_nth h 6 rfl) (fun x e=>by cases e)).trans (KU.set (at_nth (h.put (i:=6) (by simp) a) 7 rfl) (fun x e=>by cases e))).trans (KU.set (at_nth ((h.put (i:=6) (by simp) a).put (i:=7) (by simp) b) 8 rfl) (fun x e=>by cases e))
end
theorem cellsA_nb {l:List AL} {b:Bool}:Value.bool b ∉ cellsA l:=by
 unfold cellsA
 rw [List.mem_flatMap]
 rintro ⟨a,_,h⟩
 simp [cellA] at h
theorem Rd.setv {w:World} {B:Nat} {A:Option Addr} {p:Addr} {xs:List Nat} {v:Value} (h:Rd U32 w B A xs) (hc:w.cell? p=some v) (hv:∀ x,v ≠ U32 x) (u:Value):Rd U32 (w.setCell p u) B A xs:=fun hn=>by
 obtain ⟨ad,e,hb,hx⟩:=h hn
 refine ⟨ad,e,hb,fun j x hj=>?_⟩
 have h6:=hx j x hj
 rw [World.cell?_setCell_other w p _ u (by intro e;rw [← e,hc] at h6;injection h6 with h6;exact hv x h6)]
 exact h6
theorem Q1.setb {W:World} {v1 v2 v3:Value} {q:QL} {p:Addr} {b:Bool} (h:Q1 W v1 v2 v3 q) (hc:W.cell? p=some (.bool b)) (u:Value):Q1 (W.setCell p u) v1 v2 v3 q:=by
 obtain ⟨A1,c1,A2,c2,A3,c3,e1,e2,e3,b1,b2,b3,b4,r1,r2,r3,r4⟩:=h.out
 have hz:(W.setCell p u).heap.size=W.heap.size:=by simp [World.setCell]
 unfold Q1
 rw [hz]
 exact ⟨A1,c1,A2,c2,A3,c3,e1,e2,e3,b1,b2,b3,b4,r1.setn hc cellsA_nb u,r2.setn hc cellsA_nb u,r3.setv hc (fun x e=>by cases e) u,r4⟩
theorem q1_put6 {W:World} {v1 v2 v3 w0 w1 w2 w3 w4 w5 w9:Value} {q:QL} {p:Nat} {b6:Bool} {X4 X5:Option Addr} {n4 c4 n5 c5:Nat} (h:Q1 W v1 v2 v3 q) (hp:At W p [w0,w1,w2,w3,w4,w5,.bool b6,.slice X4 n4 c4,.slice X5 n5 c5,w9]) (a b c:Value):Q1 (((W.setCell ⟨p,6,none⟩ a).setCell ⟨p,7,none⟩ b).setCell ⟨p,8,none⟩ c) v1 v2 v3 q :=
 ((h.setb (at_nth hp 6 rfl) a).setn (at_nth (hp.put (i:=6) (by simp) a) 7 rfl) b).setn (at_nth ((hp.put (i:=6) (by simp) a).put (i:=7) (by simp) b) 8 rfl) c
theorem frac_bdu {s:ByteArray} {r:Rat} (h:fracD s=some r):Bd r 101:=by
 unfold fracD at h
 split at h
 ·rename_i hs
  exact (qparse_d hs).1 r h
 ·cases h
theorem unit_none {T:Tb} {s f id:ByteArray} {o:List ByteArray} (h:T.fresh s=0) (h1:fracD f=none):T.addUnit s f id o = .error 2:=by
 unfold Tb.addUnit;rw [if_neg (by rw [h];decide),h1]
theorem unit_low {T:Tb} {s f id:ByteArray} {o:List ByteArray} {r:Rat} (h:T.fresh s=0) (h1:fracD f=some r) (h2:r.num.sign≤0):T.addUnit s f id o = .error 2:=by
 unfold Tb.addUnit;rw [if_neg (by rw [h];decide),h1];dsimp only;rw [if_pos h2]
theorem unit_part {T:Tb} {s f id:ByteArray} {o:List ByteArray} {r:Rat} {v:Int} (h:T.fresh s=0) (h1:fracD f=some r) (h2:¬ r.num.sign≤0) (h3:T.part id = .error v):T.addUnit s f id o = .error v:=by
 unfold Tb.addUnit;rw [if_neg (by rw [h];decide),h1];dsimp only;rw [if_neg h2,h3]
theorem unit_nil {T:Tb} {s f id:ByteArray} {r:Rat} {q:PL} (h:T.fresh s=0) (h1:fracD f=some r) (h2:¬ r.num.sign≤0) (h3:T.part id = .ok q):T.addUnit s f id []=T.define s ⟨id,-1,r,0,false,V8.z,0⟩ q:=by
 unfold Tb.addUnit;rw [if_neg (by rw [h];decide),h1];dsimp only;rw [if_neg h2,h3]
theorem unit_off0 {T:Tb} {s f id t:ByteArray} {o:List ByteArray} {r:Rat} {q:PL} (h:T.fresh s=0) (h1:fracD f=some r) (h2:¬ r.num.sign≤0) (h3:T.part id = .ok q) (h4:fracD t=none):T.addUnit s f id (t :: o) = .error 2:=by
 unfold Tb.addUnit;rw [if_neg (by rw [h];decide),h1];dsimp only;rw [if_neg h2,h3];dsimp only;rw [h4]
theorem unit_off {T:Tb} {s f id t:ByteArray} {o:List ByteArray} {r x:Rat} {q:PL} (h:T.fresh s=0) (h1:fracD f=some r) (h2:¬ r.num.sign≤0) (h3:T.part id = .ok q) (h4:fracD t=some x):T.addUnit s f id (t :: o)=T.define s ⟨id,-1,r,x,true,V8.z,0⟩ q:=by
 unfold Tb.addUnit;rw [if_neg (by rw [h];decide),h1];dsimp only;rw [if_neg h2,h3];dsimp only;rw [h4]
section
variable {base p g y N:Nat} {W W':World} {x:TPl} {T:Tb} {s f id:ByteArray} {o:List ByteArray} {AO:Option Addr} {nO cO:Nat}
theorem StR.ret {R:Except Int Tb} {e:Ending} {w':World} (h:StR base W g p y x R e w'):∃ v:Int,e = .returned (.int .i64 v):=by
 cases R with
 | error v=>exact ⟨v,h.1⟩
 | ok T'=>exact ⟨0,h.1⟩
theorem StR.pre {R:Except Int Tb} {e:Ending} {w':World} (h:StR base W' g p y x R e w') (hb:Bel W W'):StR base W g p y x R e w':=by
 cases R with
 | error v=>exact ⟨h.1,hb.up (Bel.hid h.2)⟩
 | ok T'=>exact ⟨h.1,h.2.pre hb.hid⟩
theorem taddUnit_h (h:LdM base W g p y x T) (ok:OkT N T) (hN:N≤900000) (hbase:base≤W.heap.size) (hs:s.size≤2000000) (hid:id.size≤2000000) (ho:Ss W AO o) (hno:nO=o.length) :
 Calls Tryz.prog 87 #[.pointer (some ⟨g,0,none⟩),.string s,.string f,.string id,.slice AO nO cO] W (StR base W g p y x (T.addUnit s f id o)):=by
 obtain ⟨fc0,hfc0⟩:∃ z,T.fresh s=z:=⟨_,rfl⟩
 have CF:Hid (∀ W',Bel W W'→Calls Tryz.prog 118 #[.pointer (some ⟨g,0,none⟩),.string s] W' (IntB W' fc0)):=fun W' hb=>hfc0 ▸ tcheck_h (h.up hb.hid) hs
 have CZ:Hid (∀ W',Calls Tryz.prog 123 #[.int .i64 0] W' (QaR W' 0 1)):=fun W'=>qint_h (by decide) (by decide) (by decide) ⟨by decide,by decide⟩ W'
 have CP:Hid (∀ W',Bel W W'→Calls Tryz.prog 130 #[.pointer (some ⟨g,0,none⟩),.string id] W' (PaR W' (T.part id))):=fun W' hb=>tpart_h (h.up hb.hid) (Nat.le_trans ok.l1 (by omega)) (Nat.le_trans ok.l2 (by omega))
 have CR:Hid (∀ W' t,Calls Tryz.prog 128 #[.string t] W' (OfR W' (fracD t))):=fun W' t=>tfrac_h W'
 have CS:Hid (∀ W' r v b A n c A' n' c',QA W' b A n c A' n' c' r 101→r.num.sign=v→Calls Tryz.prog 129 #[.agg #[.bool b,.slice A n c,.slice A' n' c']] W' (IntPost W' v)):=fun W' r v b A n c A' n' c' hq hv=>rsign_h hq (by decide) hv
 have CD:Hid (∀ W' q r off has b A n c A' n' c' b2 B m d B' m' d' A1 n1 c1 A2 n2 c2 A3 n3 c3,T.fresh s=0→Bel W W'→T.part id = .ok q→Q1 W' (.slice A1 n1 c1) (.slice A2 n2 c2) (.slice A3 n3 c3) (ofP q)→Bd r 101→QA W' b A n c A' n' c' r 101→QA W' b2 B m d B' m' d' off 101 →
  Calls Tryz.prog 131 #[.pointer (some ⟨g,0,none⟩),.agg #[.string s,.string id,.int .i64 (-1),.bool b,.slice A n c,.slice A' n' c',.bool b2,.slice B m d,.slice B' m' d',.bool has],.agg #[.slice A1 n1 c1,.slice A2 n2 c2,.slice A3 n3 c3]] W' (StR base W g p y x (T.define s ⟨id,-1,r,off,has,V8.z,0⟩ q))) :=
  fun W' q r off has b A n c A' n' c' b2 B m d B' m' d' A1 n1 c1 A2 n2 c2 A3 n3 c3 h0 hb hp h1 h2 h3 h4=>(tdefine_h (e:=⟨id,-1,r,off,has,V8.z,0⟩) (h.up hb.hid) ok hN (Nat.le_trans hbase hb.hid.out.size) (fresh_none h0).1 hs hid (part_ok hp) h1 h3 h4 h2).mono fun e w' hh=>StR.pre hh hb
 obtain ⟨ho1,dg1⟩:∃ z,decide ((0:Int) < (nO:Int))=z:=⟨_,rfl⟩
 have dg2:decide (0 < nO)=ho1:=by rw [← dg1];simp
 have DG:=khide dg2
 have HB:=Bel.refl W
 have HSO:=khide ho
 have HNO:=khide hno
 have hfcs:=fresh_codes (T:=T) (s:=s)
 have HF0:=khide hfc0
 rw [hfc0] at hfcs
 obtain ⟨R,hR⟩:∃ z,T.addUnit s f id o=z:=⟨_,rfl⟩
 rw [hR]
 have HR:=khide hR
 clear h ok hN hbase hs hid ho hno hfc0 hR dg1
 have dg1:decide ((0:Int) < (nO:Int))=ho1:=by rw [← dg2];simp
 rcases hfcs with rfl | rfl | rfl
 rotate_left
 iterate 2
  ·have e1:R = .error (T.fresh s):=by rw [← HR.out];unfold Tb.addUnit;rw [if_pos (by rw [HF0.out];decide)]
   rw [e1,HF0.out]
   clear e1
   go_enter Tryz.func87,Tryz.ntmps87
   go_wp2_with (first | (go_at_call 118;(with_reducible refine (CF.out _ HB).mono ?_);rintro e w1 ⟨rfl,hb1⟩) | fail)
   go_ret
   exact ⟨rfl,hb1⟩
 have CR1:Hid (∀ W',Calls Tryz.prog 128 #[.string f] W' (OfR W' (fracD f))):=fun W'=>CR.out W' f
 cases hff:fracD f with
 | none =>
   have e1:R = .error 2:=HR.out.symm.trans (unit_none HF0.out hff)
   rw [e1]
   rw [hff] at CR1
   replace CR1:Hid (∀ W',Calls Tryz.prog 128 #[.string f] W' (OfNo W')):=CR1
   clear hff e1
   go_enter Tryz.func87,Tryz.ntmps87
   go_upto_region 5 with (first | (go_at_call 118;(with_reducible refine (CF.out _ HB).mono ?_);rintro e w1 ⟨rfl,hb1⟩) | (go_at_call 123;(with_reducible refine (CZ.out _).mono ?_);rintro e w2 ⟨i0,Z0,z0,zc0,Z1,z1,zc1,rfl,q0,hb2⟩) | (refine wpList_store_new 55 [.string s,.string id,.int .i64 (-1),.bool false,.slice none 0 0,.slice none 0 0,.bool i0,.slice Z0 z0 zc0,.slice Z1 z1 zc1,.bool ho1] (.tmp 12) (.tmp 28) _ rfl rfl rfl rfl (by kernel_rfl) rfl rfl ?_) | fail)
   refine kwp_named ?_
   intro W2 hW2
   have HB2:Bel W W2:=by rw [hW2];exact ((HB.up (Bel.hid hb1)).up (Bel.hid hb2)).al _
   have HE:At W2 w2.heap.size [.string s,.string id,.int .i64 (-1),.bool false,.slice none 0 0,.slice none 0 0,.bool i0,.slice Z0 z0 zc0,.slice Z1 z1 zc1,.bool ho1]:=by rw [hW2];exact at_new0 _ _ _
   replace q0:QA W2 i0 Z0 z0 zc0 Z1 z1 zc1 0 1:=by rw [hW2];exact q0.al _
   have HQE:Hid (W.heap.size≤w2.heap.size):=(HB.up (Bel.hid hb1)).up (Bel.hid hb2) |>.sz
   obtain ⟨qe,hqe⟩:∃ z,z=w2.heap.size:=⟨_,rfl⟩
   rw [← hqe] at HE HQE ⊢
   clear hW2 hqe hb1 hb2
   have e0:=HE.c0;have e1:=HE.c1;have e2:=HE.c2;have e3:=at_nth HE 3 rfl;have e4:=at_nth HE 4 rfl;have e5:=at_nth HE 5 rfl;have e6:=at_nth HE 6 rfl;have e7:=at_nth HE 7 rfl;have e8:=at_nth HE 8 rfl;have e9:=at_nth HE 9 rfl;have el:=HE.lt;have f3:=(HE.all 3 _ rfl).2;have f4:=(HE.all 4 _ rfl).2;have f5:=(HE.all 5 _ rfl).2
   go_upto_region 7 with (first | (go_at_call 128;(with_reducible refine (CR1.out _).mono ?_);rintro e w3 ⟨rfl,hb3⟩;replace HE:=HE.up hb3;replace HB2:=HB2.up hb3;clear e0 e1 e2 e3 e4 e5 e6 e7 e8 e9 el f3 f4 f5;have e0:=HE.c0;have e1:=HE.c1;have e2:=HE.c2;have e3:=at_nth HE 3 rfl;have e4:=at_nth HE 4 rfl;have e5:=at_nth HE 5 rfl;have e6:=at_nth HE 6 rfl;have e7:=at_nth HE 7 rfl;have e8:=at_nth HE 8 rfl;have e9:=at_nth HE 9 rfl;have el:=HE.lt;have f3:=(HE.all 3 _ rfl).2;have f4:=(HE.all 4 _ rfl).2;have f5:=(HE.all 5 _ rfl).2) | fail)
   refine kwp_named ?_
   intro W3 hW3
   have HB3:Bel W W3:=by rw [hW3];exact ((HB2.put (by have:=HQE.out;omega) _).put (by have:=HQE.out;omega) _).put (by have:=HQE.out;omega) _
   clear hW3
   go_wp2_with fail
   go_ret
   exact ⟨rfl,HB3⟩
 | some r =>
   rw [hff] at CR1
   have hbd:=frac_bdu hff
   obtain ⟨sg,hsg⟩:∃ z,r.num.sign=z:=⟨_,rfl⟩
   obtain ⟨bf,hbf⟩:∃ z,decide (r.num < 0)=z:=⟨_,rfl⟩
   obtain ⟨fn,hfn⟩:∃ z,dl r.num.natAbs=z:=⟨_,rfl⟩
   obtain ⟨fm,hfm⟩:∃ z,dl r.den=z:=⟨_,rfl⟩
   replace CR1:Hid (∀ W',Calls Tryz.prog 128 #[.string f] W' (fun e w'=>∃ FA fc FB fd,e = .returned (.tuple #[.agg #[.bool bf,.slice FA fn fc,.slice FB fm fd],.bool true])∧QA w' bf FA fn fc FB fm fd r 101∧Bel W' w')):=fun W'=>(CR1.out W').mono (by
    rintro e w' ⟨A,c,A',c',h1,h2,h3,h4⟩
    rw [hbf,hfn,hfm] at h1
    rw [hbf,hfn] at h2
    rw [hfm] at h3
    exact ⟨A,c,A',c',h1,qa_of h2 h3 hbd,h4⟩)
   have CS1:Hid (∀ W' b A n c A' n' c',QA W' b A n c A' n' c' r 101→Calls Tryz.prog 129 #[.agg #[.bool b,.slice A n c,.slice A' n' c']] W' (IntPost W' sg)):=fun W' b A n c A' n' c' hq=>CS.out W' r sg b A n c A' n' c' hq hsg
   have HBD:=khide hbd
   have HFF:=khide hff
   have HSG:=khide hsg
   have hs1:sg = -1 ∨ sg=0 ∨ sg=1:=by
    rw [← hsg]
    rcases Int.lt_trichotomy r.num 0 with h1 | h1 | h1
    ·exact .inl (Int.sign_eq_neg_one_of_neg h1)
    ·rw [h1];exact .inr (.inl rfl)
    ·exact .inr (.inr (Int.sign_eq_one_of_pos h1))
   clear hff hsg hbf hfn hfm hbd
   by_cases h1:sg≤0
   ·have e1:R = .error 2:=HR.out.symm.trans (unit_low HF0.out HFF.out (by rw [HSG.out];exact h1))
    rw [e1]
    have d1:decide (sg≤0)=true:=decide_eq_true h1
    rcases hs1 with rfl | rfl | rfl
    rotate_right
    ·exact absurd h1 (by decide)
    all_goals
     clear h1 e1 d1
     go_enter Tryz.func87,Tryz.ntmps87
     go_upto_region 5 with (first | (go_at_call 118;(with_reducible refine (CF.out _ HB).mono ?_);rintro e w1 ⟨rfl,hb1⟩) | (go_at_call 123;(with_reducible refine (CZ.out _).mono ?_);rintro e w2 ⟨i0,Z0,z0,zc0,Z1,z1,zc1,rfl,q0,hb2⟩) | (refine wpList_store_new 55 [.string s,.string id,.int .i64 (-1),.bool false,.slice none 0 0,.slice none 0 0,.bool i0,.slice Z0 z0 zc0,.slice Z1 z1 zc1,.bool ho1] (.tmp 12) (.tmp 28) _ rfl rfl rfl rfl (by kernel_rfl) rfl rfl ?_) | fail)
     refine kwp_named ?_
     intro W2 hW2
     have HB2:Bel W W2:=by rw [hW2];exact ((HB.up (Bel.hid hb1)).up (Bel.hid hb2)).al _
     have HE:At W2 w2.heap.size [.string s,.string id,.int .i64 (-1),.bool false,.slice none 0 0,.slice none 0 0,.bool i0,.slice Z0 z0 zc0,.slice Z1 z1 zc1,.bool ho1]:=by rw [hW2];exact at_new0 _ _ _
     replace q0:QA W2 i0 Z0 z0 zc0 Z1 z1 zc1 0 1:=by rw [hW2];exact q0.al _
     have HQE:Hid (W.heap.size≤w2.heap.size):=(HB.up (Bel.hid hb1)).up (Bel.hid hb2) |>.sz
     obtain ⟨qe,hqe⟩:∃ z,z=w2.heap.size:=⟨_,rfl⟩
     rw [← hqe] at HE HQE ⊢
     clear hW2 hqe hb1 hb2
     have e0:=HE.c0;have e1:=HE.c1;have e2:=HE.c2;have e3:=at_nth HE 3 rfl;have e4:=at_nth HE 4 rfl;have e5:=at_nth HE 5 rfl;have e6:=at_nth HE 6 rfl;have e7:=at_nth HE 7 rfl;have e8:=at_nth HE 8 rfl;have e9:=at_nth HE 9 rfl;have el:=HE.lt;have f3:=(HE.all 3 _ rfl).2;have f4:=(HE.all 4 _ rfl).2;have f5:=(HE.all 5 _ rfl).2
     go_upto_region 7 with (first | (go_at_call 128;(with_reducible refine (CR1.out _).mono ?_);rintro e w3 ⟨FA,fc,FB,fd,rfl,qf,hb3⟩;replace HE:=HE.up (Bel.hid hb3);replace q0:=q0.up (Bel.hid hb3);replace HB2:=HB2.up (Bel.hid hb3);clear e0 e1 e2 e3 e4 e5 e6 e7 e8 e9 el f3 f4 f5;have e0:=HE.c0;have e1:=HE.c1;have e2:=HE.c2;have e3:=at_nth HE 3 rfl;have e4:=at_nth HE 4 rfl;have e5:=at_nth HE 5 rfl;have e6:=at_nth HE 6 rfl;have e7:=at_nth HE 7 rfl;have e8:=at_nth HE 8 rfl;have e9:=at_nth HE 9 rfl;have el:=HE.lt;have f3:=(HE.all 3 _ rfl).2;have f4:=(HE.all 4 _ rfl).2;have f5:=(HE.all 5 _ rfl).2) | fail)
     refine kwp_named ?_
     intro W3 hW3
     have HB3:Bel W W3:=by rw [hW3];exact ((HB2.put (by have:=HQE.out;omega) _).put (by have:=HQE.out;omega) _).put (by have:=HQE.out;omega) _
     have HE3:At W3 qe [.string s,.string id,.int .i64 (-1),.bool bf,.slice FA fn fc,.slice FB fm fd,.bool i0,.slice Z0 z0 zc0,.slice Z1 z1 zc1,.bool ho1]:=by rw [hW3];exact ent_put3 HE _ _ _
     have KU3:KU w3 W3:=by rw [hW3];exact ku_put3 HE _ _ _
     replace qf:=qf.ku KU3
     replace q0:=q0.ku KU3
     clear hW3 HE HB2 KU3 f3 f4 f5 e0 e1 e2 e3 e4 e5 e6 e7 e8 e9 el
     have e0:=HE3.c0;have e1:=HE3.c1;have e2:=HE3.c2;have e3:=at_nth HE3 3 rfl;have e4:=at_nth HE3 4 rfl;have e5:=at_nth HE3 5 rfl;have e6:=at_nth HE3 6 rfl;have e7:=at_nth HE3 7 rfl;have e8:=at_nth HE3 8 rfl;have e9:=at_nth HE3 9 rfl;have el:=HE3.lt
     go_wp2_with (first | (go_at_call 129;(with_reducible refine (CS1.out _ _ _ _ _ _ _ _ qf).mono ?_);rintro e w4 ⟨rfl,hb4⟩;replace HE3:=HE3.up hb4;replace q0:=q0.up hb4;replace qf:=qf.up hb4;replace HB3:=HB3.up hb4;clear e0 e1 e2 e3 e4 e5 e6 e7 e8 e9 el;have e0:=HE3.c0;have e1:=HE3.c1;have e2:=HE3.c2;have e3:=at_nth HE3 3 rfl;have e4:=at_nth HE3 4 rfl;have e5:=at_nth HE3 5 rfl;have e6:=at_nth HE3 6 rfl;have e7:=at_nth HE3 7 rfl;have e8:=at_nth HE3 8 rfl;have e9:=at_nth HE3 9 rfl;have el:=HE3.lt) | fail)
     go_ret
     exact ⟨rfl,HB3⟩
   obtain rfl:sg=1:=by omega
   have HNS:Hid (¬ r.num.sign≤0):=by rw [HSG.out];exact h1
   clear h1 hs1
   cases hp:T.part id with
   | error v =>
     have e1:R = .error v:=HR.out.symm.trans (unit_part HF0.out HFF.out HNS.out hp)
     rw [e1]
     rw [hp] at CP
     have hv:=part_codes hp
     clear hp e1
     have CP2:Hid (∀ W',Bel W W'→Calls Tryz.prog 130 #[.pointer (some ⟨g,0,none⟩),.string id] W' fun e w'=>e = .returned (.tuple #[.agg #[.slice none 0 0,.slice none 0 0,.slice none 0 0],.int .i64 v])∧Bel W' w'):=fun W' hb=>CP.out W' hb
     clear CP
     rcases hv with rfl | rfl
     all_goals
      go_enter Tryz.func87,Tryz.ntmps87
      go_upto_region 5 with (first | (go_at_call 118;(with_reducible refine (CF.out _ HB).mono ?_);rintro e w1 ⟨rfl,hb1⟩) | (go_at_call 123;(with_reducible refine (CZ.out _).mono ?_);rintro e w2 ⟨i0,Z0,z0,zc0,Z1,z1,zc1,rfl,q0,hb2⟩) | (refine wpList_store_new 55 [.string s,.string id,.int .i64 (-1),.bool false,.slice none 0 0,.slice none 0 0,.bool i0,.slice Z0 z0 zc0,.slice Z1 z1 zc1,.bool ho1] (.tmp 12) (.tmp 28) _ rfl rfl rfl rfl (by kernel_rfl) rfl rfl ?_) | fail)
      refine kwp_named ?_
      intro W2 hW2
      have HB2:Bel W W2:=by rw [hW2];exact ((HB.up (Bel.hid hb1)).up (Bel.hid hb2)).al _
      have HE:At W2 w2.heap.size [.string s,.string id,.int .i64 (-1),.bool false,.slice none 0 0,.slice none 0 0,.bool i0,.slice Z0 z0 zc0,.slice Z1 z1 zc1,.bool ho1]:=by rw [hW2];exact at_new0 _ _ _
      replace q0:QA W2 i0 Z0 z0 zc0 Z1 z1 zc1 0 1:=by rw [hW2];exact q0.al _
      have HQE:Hid (W.heap.size≤w2.heap.size):=(HB.up (Bel.hid hb1)).up (Bel.hid hb2) |>.sz
      obtain ⟨qe,hqe⟩:∃ z,z=w2.heap.size:=⟨_,rfl⟩
      rw [← hqe] at HE HQE ⊢
      clear hW2 hqe hb1 hb2
      have e0:=HE.c0;have e1:=HE.c1;have e2:=HE.c2;have e3:=at_nth HE 3 rfl;have e4:=at_nth HE 4 rfl;have e5:=at_nth HE 5 rfl;have e6:=at_nth HE 6 rfl;have e7:=at_nth HE 7 rfl;have e8:=at_nth HE 8 rfl;have e9:=at_nth HE 9 rfl;have el:=HE.lt;have f3:=(HE.all 3 _ rfl).2;have f4:=(HE.all 4 _ rfl).2;have f5:=(HE.all 5 _ rfl).2
      go_upto_region 7 with (first | (go_at_call 128;(with_reducible refine (CR1.out _).mono ?_);rintro e w3 ⟨FA,fc,FB,fd,rfl,qf,hb3⟩;replace HE:=HE.up (Bel.hid hb3);replace q0:=q0.up (Bel.hid hb3);replace HB2:=HB2.up (Bel.hid hb3);clear e0 e1 e2 e3 e4 e5 e6 e7 e8 e9 el f3 f4 f5;have e0:=HE.c0;have e1:=HE.c1;have e2:=HE.c2;have e3:=at_nth HE 3 rfl;have e4:=at_nth HE 4 rfl;have e5:=at_nth HE 5 rfl;have e6:=at_nth HE 6 rfl;have e7:=at_nth HE 7 rfl;have e8:=at_nth HE 8 rfl;have e9:=at_nth HE 9 rfl;have el:=HE.lt;have f3:=(HE.all 3 _ rfl).2;have f4:=(HE.all 4 _ rfl).2;have f5:=(HE.all 5 _ rfl).2) | fail)
      refine kwp_named ?_
      intro W3 hW3
      have HB3:Bel W W3:=by rw [hW3];exact ((HB2.put (by have:=HQE.out;omega) _).put (by have:=HQE.out;omega) _).put (by have:=HQE.out;omega) _
      have HE3:At W3 qe [.string s,.string id,.int .i64 (-1),.bool bf,.slice FA fn fc,.slice FB fm fd,.bool i0,.slice Z0 z0 zc0,.slice Z1 z1 zc1,.bool ho1]:=by rw [hW3];exact ent_put3 HE _ _ _
      have KU3:KU w3 W3:=by rw [hW3];exact ku_put3 HE _ _ _
      replace qf:=qf.ku KU3
      replace q0:=q0.ku KU3
      clear hW3 HE HB2 KU3 f3 f4 f5 e0 e1 e2 e3 e4 e5 e6 e7 e8 e9 el
      have e0:=HE3.c0;have e1:=HE3.c1;have e2:=HE3.c2;have e3:=at_nth HE3 3 rfl;have e4:=at_nth HE3 4 rfl;have e5:=at_nth HE3 5 rfl;have e6:=at_nth HE3 6 rfl;have e7:=at_nth HE3 7 rfl;have e8:=at_nth HE3 8 rfl;have e9:=at_nth HE3 9 rfl;have el:=HE3.lt
      go_wp2_with (first | (go_at_call 129;(with_reducible refine (CS1.out _ _ _ _ _ _ _ _ qf).mono ?_);rintro e w4 ⟨rfl,hb4⟩;replace HE3:=HE3.up hb4;replace q0:=q0.up hb4;replace qf:=qf.up hb4;replace HB3:=HB3.up hb4;clear e0 e1 e2 e3 e4 e5 e6 e7 e8 e9 el;have e0:=HE3.c0;have e1:=HE3.c1;have e2:=HE3.c2;have e3:=at_nth HE3 3 rfl;have e4:=at_nth HE3 4 rfl;have e5:=at_nth HE3 5 rfl;have e6:=at_nth HE3 6 rfl;have e7:=at_nth HE3 7 rfl;have e8:=at_nth HE3 8 rfl;have e9:=at_nth HE3 9 rfl;have el:=HE3.lt) | (go_at_call 130;(with_reducible refine (CP2.out _ HB3).mono ?_);rintro e w5 ⟨rfl,hb5⟩) | fail)
      go_ret
      exact ⟨rfl,(HB3.up (Bel.hid hb5)).al _⟩
   | ok q =>
     rw [hp] at CP
     have HP0:=khide hp
     clear hp
     have CP2:Hid (∀ W',Bel W W'→Calls Tryz.prog 130 #[.pointer (some ⟨g,0,none⟩),.string id] W' fun e w'=>∃ A1 n1 c1 A2 n2 c2 A3 n3 c3,e = .returned (.tuple #[.agg #[.slice A1 n1 c1,.slice A2 n2 c2,.slice A3 n3 c3],.int .i64 0])∧Q1 w' (.slice A1 n1 c1) (.slice A2 n2 c2) (.slice A3 n3 c3) (ofP q)∧Bel W' w'):=fun W' hb=>CP.out W' hb
     clear CP
     cases o with
     | nil =>
       obtain rfl:nO=0:=HNO.out
       obtain rfl:false=ho1:=DG.out
       have HD:Hid (R=T.define s ⟨id,-1,r,0,false,V8.z,0⟩ q):=HR.out.symm.trans (unit_nil HF0.out HFF.out HNS.out HP0.out)
       clear dg1 dg2
       go_enter Tryz.func87,Tryz.ntmps87
       go_upto_region 5 with (first | (go_at_call 118;(with_reducible refine (CF.out _ HB).mono ?_);rintro e w1 ⟨rfl,hb1⟩) | (go_at_call 123;(with_reducible refine (CZ.out _).mono ?_);rintro e w2 ⟨i0,Z0,z0,zc0,Z1,z1,zc1,rfl,q0,hb2⟩) | (refine wpList_store_new 55 [.string s,.string id,.int .i64 (-1),.bool false,.slice none 0 0,.slice none 0 0,.bool i0,.slice Z0 z0 zc0,.slice Z1 z1 zc1,.bool false] (.tmp 12) (.tmp 28) _ rfl rfl rfl rfl (by kernel_rfl) rfl rfl ?_) | fail)
       refine kwp_named ?_
       intro W2 hW2
       have HB2:Bel W W2:=by rw [hW2];exact ((HB.up (Bel.hid hb1)).up (Bel.hid hb2)).al _
       have HE:At W2 w2.heap.size [.string s,.string id,.int .i64 (-1),.bool false,.slice none 0 0,.slice none 0 0,.bool i0,.slice Z0 z0 zc0,.slice Z1 z1 zc1,.bool false]:=by rw [hW2];exact at_new0 _ _ _
       replace q0:QA W2 i0 Z0 z0 zc0 Z1 z1 zc1 0 1:=by rw [hW2];exact q0.al _
       have HQE:Hid (W.heap.size≤w2.heap.size):=(HB.up (Bel.hid hb1)).up (Bel.hid hb2) |>.sz
       obtain ⟨qe,hqe⟩:∃ z,z=w2.heap.size:=⟨_,rfl⟩
       rw [← hqe] at HE HQE ⊢
       clear hW2 hqe hb1 hb2
       have e0:=HE.c0;have e1:=HE.c1;have e2:=HE.c2;have e3:=at_nth HE 3 rfl;have e4:=at_nth HE 4 rfl;have e5:=at_nth HE 5 rfl;have e6:=at_nth HE 6 rfl;have e7:=at_nth HE 7 rfl;have e8:=at_nth HE 8 rfl;have e9:=at_nth HE 9 rfl;have el:=HE.lt;have f3:=(HE.all 3 _ rfl).2;have f4:=(HE.all 4 _ rfl).2;have f5:=(HE.all 5 _ rfl).2
       go_upto_region 7 with (first | (go_at_call 128;(with_reducible refine (CR1.out _).mono ?_);rintro e w3 ⟨FA,fc,FB,fd,rfl,qf,hb3⟩;replace HE:=HE.up (Bel.hid hb3);replace q0:=q0.up (Bel.hid hb3);replace HB2:=HB2.up (Bel.hid hb3);clear e0 e1 e2 e3 e4 e5 e6 e7 e8 e9 el f3 f4 f5;have e0:=HE.c0;have e1:=HE.c1;have e2:=HE.c2;have e3:=at_nth HE 3 rfl;have e4:=at_nth HE 4 rfl;have e5:=at_nth HE 5 rfl;have e6:=at_nth HE 6 rfl;have e7:=at_nth HE 7 rfl;have e8:=at_nth HE 8 rfl;have e9:=at_nth HE 9 rfl;have el:=HE.lt;have f3:=(HE.all 3 _ rfl).2;have f4:=(HE.all 4 _ rfl).2;have f5:=(HE.all 5 _ rfl).2) | fail)
       refine kwp_named ?_
       intro W3 hW3
       have HB3:Bel W W3:=by rw [hW3];exact ((HB2.put (by have:=HQE.out;omega) _).put (by have:=HQE.out;omega) _).put (by have:=HQE.out;omega) _
       have HE3:At W3 qe [.string s,.string id,.int .i64 (-1),.bool bf,.slice FA fn fc,.slice FB fm fd,.bool i0,.slice Z0 z0 zc0,.slice Z1 z1 zc1,.bool false]:=by rw [hW3];exact ent_put3 HE _ _ _
       have KU3:KU w3 W3:=by rw [hW3];exact ku_put3 HE _ _ _
       replace qf:=qf.ku KU3
       replace q0:=q0.ku KU3
       clear hW3 HE HB2 KU3 f3 f4 f5 e0 e1 e2 e3 e4 e5 e6 e7 e8 e9 el
       have e0:=HE3.c0;have e1:=HE3.c1;have e2:=HE3.c2;have e3:=at_nth HE3 3 rfl;have e4:=at_nth HE3 4 rfl;have e5:=at_nth HE3 5 rfl;have e6:=at_nth HE3 6 rfl;have e7:=at_nth HE3 7 rfl;have e8:=at_nth HE3 8 rfl;have e9:=at_nth HE3 9 rfl;have el:=HE3.lt
       go_upto_region 12 with (first | (go_at_call 129;(with_reducible refine (CS1.out _ _ _ _ _ _ _ _ qf).mono ?_);rintro e w4 ⟨rfl,hb4⟩;replace HE3:=HE3.up hb4;replace q0:=q0.up hb4;replace qf:=qf.up hb4;replace HB3:=HB3.up hb4;clear e0 e1 e2 e3 e4 e5 e6 e7 e8 e9 el;have e0:=HE3.c0;have e1:=HE3.c1;have e2:=HE3.c2;have e3:=at_nth HE3 3 rfl;have e4:=at_nth HE3 4 rfl;have e5:=at_nth HE3 5 rfl;have e6:=at_nth HE3 6 rfl;have e7:=at_nth HE3 7 rfl;have e8:=at_nth HE3 8 rfl;have e9:=at_nth HE3 9 rfl;have el:=HE3.lt) | (go_at_call 130;(with_reducible refine (CP2.out _ HB3).mono ?_);rintro e w5 ⟨A1,n1,c1,A2,n2,c2,A3,n3,c3,rfl,hq1,hb5⟩) | fail)
       refine kwp_named ?_
       intro W5 hW5
       have HP:At W5 w5.heap.size [.slice A1 n1 c1,.slice A2 n2 c2,.slice A3 n3 c3]:=by rw [hW5];exact at_new0 _ _ _
       have HB5:Bel W W5:=by rw [hW5];exact (HB3.up (Bel.hid hb5)).al _
       have HE5:At W5 qe [.string s,.string id,.int .i64 (-1),.bool bf,.slice FA fn fc,.slice FB fm fd,.bool i0,.slice Z0 z0 zc0,.slice Z1 z1 zc1,.bool false]:=by rw [hW5];exact (HE3.up (Bel.hid hb5)).al _
       replace hq1:=hq1.al (.cells #[.slice A1 n1 c1,.slice A2 n2 c2,.slice A3 n3 c3] 44)
       rw [← hW5] at hq1
       replace q0:QA W5 i0 Z0 z0 zc0 Z1 z1 zc1 0 1:=by rw [hW5];exact (q0.up (Bel.hid hb5)).al _
       replace qf:QA W5 bf FA fn fc FB fm fd r 101:=by rw [hW5];exact (qf.up (Bel.hid hb5)).al _
       obtain ⟨qp,hqp⟩:∃ z,z=w5.heap.size:=⟨_,rfl⟩
       have hpe:qe < qp:=by rw [hqp];exact (HE3.up (Bel.hid hb5)).lt
       rw [← hqp] at HP ⊢
       clear hW5 hqp HE3 HB3 hb5 e0 e1 e2 e3 e4 e5 e6 e7 e8 e9 el
       have e0:=HE5.c0;have e1:=HE5.c1;have e2:=HE5.c2;have e3:=at_nth HE5 3 rfl;have e4:=at_nth HE5 4 rfl;have e5:=at_nth HE5 5 rfl;have e6:=at_nth HE5 6 rfl;have e7:=at_nth HE5 7 rfl;have e8:=at_nth HE5 8 rfl;have e9:=at_nth HE5 9 rfl;have el:=HE5.lt
       have p0:=HP.c0;have p1:=HP.c1;have p2:=HP.c2;have pl:=HP.lt
       go_wp2_with (first | (go_at_call 131;refine (CD.out _ q r 0 false _ _ _ _ _ _ _ _ _ _ _ _ _ _ _ _ _ _ _ _ _ _ _ HF0.out HB5 HP0.out hq1 HBD.out qf (q0.more (by decide))).mono ?_;rintro e w6 hst;obtain ⟨v6,rfl⟩:=hst.ret) | fail)
       go_ret
       rw [HD.out]
       exact hst
     | cons t0 rest =>
       have h0:0 < nO:=by rw [HNO.out];exact Nat.succ_pos _
       obtain rfl:true=ho1:=by rw [← DG.out,decide_eq_true h0]
       obtain ⟨ao,hao,hab,hac⟩:=HSO.out (by simp)
       have hcel:W.cell? ao=some (.string t0):=by have h1:=hac 0 t0 rfl;rwa [show ao.add 0=ao by simp [Addr.add]] at h1
       have HCE:=khide hcel
       have HAB:=khide hab
       subst hao
       have hle:(nO:Int) ≠ 0:=by omega
       have hlt:(0:Int) < (nO:Int):=by omega
       have CR2:Hid (∀ W',Calls Tryz.prog 128 #[.string t0] W' (OfR W' (fracD t0))):=fun W'=>CR.out W' t0
       clear hac hcel hab
       cases hft:fracD t0 with
       | none =>
         have e1:R = .error 2:=HR.out.symm.trans (unit_off0 HF0.out HFF.out HNS.out HP0.out hft)
         rw [e1]
         rw [hft] at CR2
         replace CR2:Hid (∀ W',Calls Tryz.prog 128 #[.string t0] W' (OfNo W')):=CR2
         clear hft e1
         go_enter Tryz.func87,Tryz.ntmps87
         go_upto_region 5 with (first | (go_at_call 118;(with_reducible refine (CF.out _ HB).mono ?_);rintro e w1 ⟨rfl,hb1⟩) | (go_at_call 123;(with_reducible refine (CZ.out _).mono ?_);rintro e w2 ⟨i0,Z0,z0,zc0,Z1,z1,zc1,rfl,q0,hb2⟩) | (refine wpList_store_new 55 [.string s,.string id,.int .i64 (-1),.bool false,.slice none 0 0,.slice none 0 0,.bool i0,.slice Z0 z0 zc0,.slice Z1 z1 zc1,.bool true] (.tmp 12) (.tmp 28) _ rfl rfl rfl rfl (by kernel_rfl) rfl rfl ?_) | fail)
         refine kwp_named ?_
         intro W2 hW2
         have HB2:Bel W W2:=by rw [hW2];exact ((HB.up (Bel.hid hb1)).up (Bel.hid hb2)).al _
         have HE:At W2 w2.heap.size [.string s,.string id,.int .i64 (-1),.bool false,.slice none 0 0,.slice none 0 0,.bool i0,.slice Z0 z0 zc0,.slice Z1 z1 zc1,.bool true]:=by rw [hW2];exact at_new0 _ _ _
         replace q0:QA W2 i0 Z0 z0 zc0 Z1 z1 zc1 0 1:=by rw [hW2];exact q0.al _
         have HQE:Hid (W.heap.size≤w2.heap.size):=(HB.up (Bel.hid hb1)).up (Bel.hid hb2) |>.sz
         obtain ⟨qe,hqe⟩:∃ z,z=w2.heap.size:=⟨_,rfl⟩
         rw [← hqe] at HE HQE ⊢
         clear hW2 hqe hb1 hb2
         have e0:=HE.c0;have e1:=HE.c1;have e2:=HE.c2;have e3:=at_nth HE 3 rfl;have e4:=at_nth HE 4 rfl;have e5:=at_nth HE 5 rfl;have e6:=at_nth HE 6 rfl;have e7:=at_nth HE 7 rfl;have e8:=at_nth HE 8 rfl;have e9:=at_nth HE 9 rfl;have el:=HE.lt;have f3:=(HE.all 3 _ rfl).2;have f4:=(HE.all 4 _ rfl).2;have f5:=(HE.all 5 _ rfl).2
         go_upto_region 7 with (first | (go_at_call 128;(with_reducible refine (CR1.out _).mono ?_);rintro e w3 ⟨FA,fc,FB,fd,rfl,qf,hb3⟩;replace HE:=HE.up (Bel.hid hb3);replace q0:=q0.up (Bel.hid hb3);replace HB2:=HB2.up (Bel.hid hb3);clear e0 e1 e2 e3 e4 e5 e6 e7 e8 e9 el f3 f4 f5;have e0:=HE.c0;have e1:=HE.c1;have e2:=HE.c2;have e3:=at_nth HE 3 rfl;have e4:=at_nth HE 4 rfl;have e5:=at_nth HE 5 rfl;have e6:=at_nth HE 6 rfl;have e7:=at_nth HE 7 rfl;have e8:=at_nth HE 8 rfl;have e9:=at_nth HE 9 rfl;have el:=HE.lt;have f3:=(HE.all 3 _ rfl).2;have f4:=(HE.all 4 _ rfl).2;have f5:=(HE.all 5 _ rfl).2) | fail)
         refine kwp_named ?_
         intro W3 hW3
         have HB3:Bel W W3:=by rw [hW3];exact ((HB2.put (by have:=HQE.out;omega) _).put (by have:=HQE.out;omega) _).put (by have:=HQE.out;omega) _
         have HE3:At W3 qe [.string s,.string id,.int .i64 (-1),.bool bf,.slice FA fn fc,.slice FB fm fd,.bool i0,.slice Z0 z0 zc0,.slice Z1 z1 zc1,.bool true]:=by rw [hW3];exact ent_put3 HE _ _ _
         have KU3:KU w3 W3:=by rw [hW3];exact ku_put3 HE _ _ _
         replace qf:=qf.ku KU3
         replace q0:=q0.ku KU3
         clear hW3 HE HB2 KU3 f3 f4 f5 e0 e1 e2 e3 e4 e5 e6 e7 e8 e9 el
         have e0:=HE3.c0;have e1:=HE3.c1;have e2:=HE3.c2;have e3:=at_nth HE3 3 rfl;have e4:=at_nth HE3 4 rfl;have e5:=at_nth HE3 5 rfl;have e6:=at_nth HE3 6 rfl;have e7:=at_nth HE3 7 rfl;have e8:=at_nth HE3 8 rfl;have e9:=at_nth HE3 9 rfl;have el:=HE3.lt
         go_upto_region 12 with (first | (go_at_call 129;(with_reducible refine (CS1.out _ _ _ _ _ _ _ _ qf).mono ?_);rintro e w4 ⟨rfl,hb4⟩;replace HE3:=HE3.up hb4;replace q0:=q0.up hb4;replace qf:=qf.up hb4;replace HB3:=HB3.up hb4;clear e0 e1 e2 e3 e4 e5 e6 e7 e8 e9 el;have e0:=HE3.c0;have e1:=HE3.c1;have e2:=HE3.c2;have e3:=at_nth HE3 3 rfl;have e4:=at_nth HE3 4 rfl;have e5:=at_nth HE3 5 rfl;have e6:=at_nth HE3 6 rfl;have e7:=at_nth HE3 7 rfl;have e8:=at_nth HE3 8 rfl;have e9:=at_nth HE3 9 rfl;have el:=HE3.lt) | (go_at_call 130;(with_reducible refine (CP2.out _ HB3).mono ?_);rintro e w5 ⟨A1,n1,c1,A2,n2,c2,A3,n3,c3,rfl,hq1,hb5⟩) | fail)
         refine kwp_named ?_
         intro W5 hW5
         have HP:At W5 w5.heap.size [.slice A1 n1 c1,.slice A2 n2 c2,.slice A3 n3 c3]:=by rw [hW5];exact at_new0 _ _ _
         have HB5:Bel W W5:=by rw [hW5];exact (HB3.up (Bel.hid hb5)).al _
         have HE5:At W5 qe [.string s,.string id,.int .i64 (-1),.bool bf,.slice FA fn fc,.slice FB fm fd,.bool i0,.slice Z0 z0 zc0,.slice Z1 z1 zc1,.bool true]:=by rw [hW5];exact (HE3.up (Bel.hid hb5)).al _
         replace hq1:=hq1.al (.cells #[.slice A1 n1 c1,.slice A2 n2 c2,.slice A3 n3 c3] 44)
         rw [← hW5] at hq1
         replace q0:QA W5 i0 Z0 z0 zc0 Z1 z1 zc1 0 1:=by rw [hW5];exact (q0.up (Bel.hid hb5)).al _
         replace qf:QA W5 bf FA fn fc FB fm fd r 101:=by rw [hW5];exact (qf.up (Bel.hid hb5)).al _
         obtain ⟨qp,hqp⟩:∃ z,z=w5.heap.size:=⟨_,rfl⟩
         have hpe:qe < qp:=by rw [hqp];exact (HE3.up (Bel.hid hb5)).lt
         rw [← hqp] at HP ⊢
         clear hW5 hqp HE3 HB3 hb5 e0 e1 e2 e3 e4 e5 e6 e7 e8 e9 el
         have e0:=HE5.c0;have e1:=HE5.c1;have e2:=HE5.c2;have e3:=at_nth HE5 3 rfl;have e4:=at_nth HE5 4 rfl;have e5:=at_nth HE5 5 rfl;have e6:=at_nth HE5 6 rfl;have e7:=at_nth HE5 7 rfl;have e8:=at_nth HE5 8 rfl;have e9:=at_nth HE5 9 rfl;have el:=HE5.lt
         have p0:=HP.c0;have p1:=HP.c1;have p2:=HP.c2;have pl:=HP.lt
         have ha:=(Below.cell HB5 HAB.out).trans HCE.out
         go_upto_region 14 with (first | (go_at_call 128;(with_reducible refine (CR2.out _).mono ?_);rintro e w6 ⟨rfl,hb6⟩;replace HE5:=HE5.up hb6;replace HB5:=HB5.up hb6;clear e0 e1 e2 e3 e4 e5 e6 e7 e8 e9 el;have e0:=HE5.c0;have e1:=HE5.c1;have e2:=HE5.c2;have e3:=at_nth HE5 3 rfl;have e4:=at_nth HE5 4 rfl;have e5:=at_nth HE5 5 rfl;have e6:=at_nth HE5 6 rfl;have e7:=at_nth HE5 7 rfl;have e8:=at_nth HE5 8 rfl;have e9:=at_nth HE5 9 rfl;have el:=HE5.lt;have f6:=(HE5.all 6 _ rfl).2;have f7:=(HE5.all 7 _ rfl).2;have f8:=(HE5.all 8 _ rfl).2) | fail)
         refine kwp_named ?_
         intro W6 hW6
         have HB6:Bel W W6:=by rw [hW6];exact ((HB5.put (by have:=HQE.out;omega) _).put (by have:=HQE.out;omega) _).put (by have:=HQE.out;omega) _
         clear hW6
         go_wp2_with fail
         go_ret
         exact ⟨rfl,HB6⟩
       | some ox =>
         have hbo:=frac_bdu hft
         obtain ⟨bo,hbo1⟩:∃ z,decide (ox.num < 0)=z:=⟨_,rfl⟩
         obtain ⟨on,hon⟩:∃ z,dl ox.num.natAbs=z:=⟨_,rfl⟩
         obtain ⟨om,hom⟩:∃ z,dl ox.den=z:=⟨_,rfl⟩
         rw [hft] at CR2
         replace CR2:Hid (∀ W',Calls Tryz.prog 128 #[.string t0] W' (fun e w'=>∃ OA oc OB od,e = .returned (.tuple #[.agg #[.bool bo,.slice OA on oc,.slice OB om od],.bool true])∧QA w' bo OA on oc OB om od ox 101∧Bel W' w')):=fun W'=>(CR2.out W').mono (by
          rintro e w' ⟨A,c,A',c',h1,h2,h3,h4⟩
          rw [hbo1,hon,hom] at h1
          rw [hbo1,hon] at h2
          rw [hom] at h3
          exact ⟨A,c,A',c',h1,qa_of h2 h3 hbo,h4⟩)
         have HD:Hid (R=T.define s ⟨id,-1,r,ox,true,V8.z,0⟩ q):=HR.out.symm.trans (unit_off HF0.out HFF.out HNS.out HP0.out hft)
         clear hft hbo1 hon hom hbo
         go_enter Tryz.func87,Tryz.ntmps87
         go_upto_region 5 with (first | (go_at_call 118;(with_reducible refine (CF.out _ HB).mono ?_);rintro e w1 ⟨rfl,hb1⟩) | (go_at_call 123;(with_reducible refine (CZ.out _).mono ?_);rintro e w2 ⟨i0,Z0,z0,zc0,Z1,z1,zc1,rfl,q0,hb2⟩) | (refine wpList_store_new 55 [.string s,.string id,.int .i64 (-1),.bool false,.slice none 0 0,.slice none 0 0,.bool i0,.slice Z0 z0 zc0,.slice Z1 z1 zc1,.bool true] (.tmp 12) (.tmp 28) _ rfl rfl rfl rfl (by kernel_rfl) rfl rfl ?_) | fail)
         refine kwp_named ?_
         intro W2 hW2
         have HB2:Bel W W2:=by rw [hW2];exact ((HB.up (Bel.hid hb1)).up (Bel.hid hb2)).al _
         have HE:At W2 w2.heap.size [.string s,.string id,.int .i64 (-1),.bool false,.slice none 0 0,.slice none 0 0,.bool i0,.slice Z0 z0 zc0,.slice Z1 z1 zc1,.bool true]:=by rw [hW2];exact at_new0 _ _ _
         replace q0:QA W2 i0 Z0 z0 zc0 Z1 z1 zc1 0 1:=by rw [hW2];exact q0.al _
         have HQE:Hid (W.heap.size≤w2.heap.size):=(HB.up (Bel.hid hb1)).up (Bel.hid hb2) |>.sz
         obtain ⟨qe,hqe⟩:∃ z,z=w2.heap.size:=⟨_,rfl⟩
         rw [← hqe] at HE HQE ⊢
         clear hW2 hqe hb1 hb2
         have e0:=HE.c0;have e1:=HE.c1;have e2:=HE.c2;have e3:=at_nth HE 3 rfl;have e4:=at_nth HE 4 rfl;have e5:=at_nth HE 5 rfl;have e6:=at_nth HE 6 rfl;have e7:=at_nth HE 7 rfl;have e8:=at_nth HE 8 rfl;have e9:=at_nth HE 9 rfl;have el:=HE.lt;have f3:=(HE.all 3 _ rfl).2;have f4:=(HE.all 4 _ rfl).2;have f5:=(HE.all 5 _ rfl).2
         go_upto_region 7 with (first | (go_at_call 128;(with_reducible refine (CR1.out _).mono ?_);rintro e w3 ⟨FA,fc,FB,fd,rfl,qf,hb3⟩;replace HE:=HE.up (Bel.hid hb3);replace q0:=q0.up (Bel.hid hb3);replace HB2:=HB2.up (Bel.hid hb3);clear e0 e1 e2 e3 e4 e5 e6 e7 e8 e9 el f3 f4 f5;have e0:=HE.c0;have e1:=HE.c1;have e2:=HE.c2;have e3:=at_nth HE 3 rfl;have e4:=at_nth HE 4 rfl;have e5:=at_nth HE 5 rfl;have e6:=at_nth HE 6 rfl;have e7:=at_nth HE 7 rfl;have e8:=at_nth HE 8 rfl;have e9:=at_nth HE 9 rfl;have el:=HE.lt;have f3:=(HE.all 3 _ rfl).2;have f4:=(HE.all 4 _ rfl).2;have f5:=(HE.all 5 _ rfl).2) | fail)
         refine kwp_named ?_
         intro W3 hW3
         have HB3:Bel W W3:=by rw [hW3];exact ((HB2.put (by have:=HQE.out;omega) _).put (by have:=HQE.out;omega) _).put (by have:=HQE.out;omega) _
         have HE3:At W3 qe [.string s,.string id,.int .i64 (-1),.bool bf,.slice FA fn fc,.slice FB fm fd,.bool i0,.slice Z0 z0 zc0,.slice Z1 z1 zc1,.bool true]:=by rw [hW3];exact ent_put3 HE _ _ _
         have KU3:KU w3 W3:=by rw [hW3];exact ku_put3 HE _ _ _
         replace qf:=qf.ku KU3
         replace q0:=q0.ku KU3
         clear hW3 HE HB2 KU3 f3 f4 f5 e0 e1 e2 e3 e4 e5 e6 e7 e8 e9 el
         have e0:=HE3.c0;have e1:=HE3.c1;have e2:=HE3.c2;have e3:=at_nth HE3 3 rfl;have e4:=at_nth HE3 4 rfl;have e5:=at_nth HE3 5 rfl;have e6:=at_nth HE3 6 rfl;have e7:=at_nth HE3 7 rfl;have e8:=at_nth HE3 8 rfl;have e9:=at_nth HE3 9 rfl;have el:=HE3.lt
         go_upto_region 12 with (first | (go_at_call 129;(with_reducible refine (CS1.out _ _ _ _ _ _ _ _ qf).mono ?_);rintro e w4 ⟨rfl,hb4⟩;replace HE3:=HE3.up hb4;replace q0:=q0.up hb4;replace qf:=qf.up hb4;replace HB3:=HB3.up hb4;clear e0 e1 e2 e3 e4 e5 e6 e7 e8 e9 el;have e0:=HE3.c0;have e1:=HE3.c1;have e2:=HE3.c2;have e3:=at_nth HE3 3 rfl;have e4:=at_nth HE3 4 rfl;have e5:=at_nth HE3 5 rfl;have e6:=at_nth HE3 6 rfl;have e7:=at_nth HE3 7 rfl;have e8:=at_nth HE3 8 rfl;have e9:=at_nth HE3 9 rfl;have el:=HE3.lt) | (go_at_call 130;(with_reducible refine (CP2.out _ HB3).mono ?_);rintro e w5 ⟨A1,n1,c1,A2,n2,c2,A3,n3,c3,rfl,hq1,hb5⟩) | fail)
         refine kwp_named ?_
         intro W5 hW5
         have HP:At W5 w5.heap.size [.slice A1 n1 c1,.slice A2 n2 c2,.slice A3 n3 c3]:=by rw [hW5];exact at_new0 _ _ _
         have HB5:Bel W W5:=by rw [hW5];exact (HB3.up (Bel.hid hb5)).al _
         have HE5:At W5 qe [.string s,.string id,.int .i64 (-1),.bool bf,.slice FA fn fc,.slice FB fm fd,.bool i0,.slice Z0 z0 zc0,.slice Z1 z1 zc1,.bool true]:=by rw [hW5];exact (HE3.up (Bel.hid hb5)).al _
         replace hq1:=hq1.al (.cells #[.slice A1 n1 c1,.slice A2 n2 c2,.slice A3 n3 c3] 44)
         rw [← hW5] at hq1
         replace q0:QA W5 i0 Z0 z0 zc0 Z1 z1 zc1 0 1:=by rw [hW5];exact (q0.up (Bel.hid hb5)).al _
         replace qf:QA W5 bf FA fn fc FB fm fd r 101:=by rw [hW5];exact (qf.up (Bel.hid hb5)).al _
         obtain ⟨qp,hqp⟩:∃ z,z=w5.heap.size:=⟨_,rfl⟩
         have hpe:qe < qp:=by rw [hqp];exact (HE3.up (Bel.hid hb5)).lt
         rw [← hqp] at HP ⊢
         clear hW5 hqp HE3 HB3 hb5 e0 e1 e2 e3 e4 e5 e6 e7 e8 e9 el
         have e0:=HE5.c0;have e1:=HE5.c1;have e2:=HE5.c2;have e3:=at_nth HE5 3 rfl;have e4:=at_nth HE5 4 rfl;have e5:=at_nth HE5 5 rfl;have e6:=at_nth HE5 6 rfl;have e7:=at_nth HE5 7 rfl;have e8:=at_nth HE5 8 rfl;have e9:=at_nth HE5 9 rfl;have el:=HE5.lt
         have p0:=HP.c0;have p1:=HP.c1;have p2:=HP.c2;have pl:=HP.lt
         have ha:=(Below.cell HB5 HAB.out).trans HCE.out
         go_upto_region 14 with (first | (go_at_call 128;(with_reducible refine (CR2.out _).mono ?_);rintro e w6 ⟨OA,oc,OB,od,rfl,qo,hb6⟩;replace HE5:=HE5.up (Bel.hid hb6);replace HB5:=HB5.up (Bel.hid hb6);replace HP:=HP.up (Bel.hid hb6);replace hq1:=hq1.up (Bel.hid hb6);replace qf:=qf.up (Bel.hid hb6);clear e0 e1 e2 e3 e4 e5 e6 e7 e8 e9 el p0 p1 p2 pl;have e0:=HE5.c0;have e1:=HE5.c1;have e2:=HE5.c2;have e3:=at_nth HE5 3 rfl;have e4:=at_nth HE5 4 rfl;have e5:=at_nth HE5 5 rfl;have e6:=at_nth HE5 6 rfl;have e7:=at_nth HE5 7 rfl;have e8:=at_nth HE5 8 rfl;have e9:=at_nth HE5 9 rfl;have el:=HE5.lt;have f6:=(HE5.all 6 _ rfl).2;have f7:=(HE5.all 7 _ rfl).2;have f8:=(HE5.all 8 _ rfl).2) | fail)
         refine kwp_named ?_
         intro W6 hW6
         have HB6:Bel W W6:=by rw [hW6];exact ((HB5.put (by have:=HQE.out;omega) _).put (by have:=HQE.out;omega) _).put (by have:=HQE.out;omega) _
         have HE6:At W6 qe [.string s,.string id,.int .i64 (-1),.bool bf,.slice FA fn fc,.slice FB fm fd,.bool bo,.slice OA on oc,.slice OB om od,.bool true]:=by rw [hW6];exact ent_put6 HE5 _ _ _
         have KU6:KU w6 W6:=by rw [hW6];exact ku_put6 HE5 _ _ _
         replace hq1:Q1 W6 (.slice A1 n1 c1) (.slice A2 n2 c2) (.slice A3 n3 c3) (ofP q):=by rw [hW6];exact q1_put6 hq1 HE5 _ _ _
         replace HP:At W6 qp [.slice A1 n1 c1,.slice A2 n2 c2,.slice A3 n3 c3]:=by rw [hW6];exact ((HP.far (by omega) _).far (by omega) _).far (by omega) _
         replace qf:=qf.ku KU6
         replace qo:=qo.ku KU6
         clear hW6 HE5 HB5 KU6 f6 f7 f8 ha e0 e1 e2 e3 e4 e5 e6 e7 e8 e9 el
         have e0:=HE6.c0;have e1:=HE6.c1;have e2:=HE6.c2;have e3:=at_nth HE6 3 rfl;have e4:=at_nth HE6 4 rfl;have e5:=at_nth HE6 5 rfl;have e6:=at_nth HE6 6 rfl;have e7:=at_nth HE6 7 rfl;have e8:=at_nth HE6 8 rfl;have e9:=at_nth HE6 9 rfl;have el:=HE6.lt
         have p0:=HP.c0;have p1:=HP.c1;have p2:=HP.c2;have pl:=HP.lt
         go_wp2_with (first | (go_at_call 131;refine (CD.out _ q r ox true _ _ _ _ _ _ _ _ _ _ _ _ _ _ _ _ _ _ _ _ _ _ _ HF0.out HB6 HP0.out hq1 HBD.out qf qo).mono ?_;rintro e w7 hst;obtain ⟨v7,rfl⟩:=hst.ret) | fail)
         go_ret
         rw [HD.out]
         exact hst
end
end Go.Proofs.YtfflmmbhpchloaaGreatDoor
end
