/- Each theorem here says its own conditions. -/
import Derived.Test.YtfflmmbhpchloaaGreatDoorGTpwc46
set_option maxRecDepth 100000
set_option maxHeartbeats 16000000
section
open Go.RowKit
open Go.Proofs.YtfflmmbhpchloaaGreatDoor.V
namespace Go.Proofs.YtfflmmbhpchloaaGreatDoor
def NoF (w:World) (q0:QL) (n:Nat) (X:Option Addr) (m:Nat) (hv:Int):Prop:=hv=11 ∨ ∃ g rs r0,hv=0∧m=n∧X=some ⟨g,0,none⟩∧Qs w (some ⟨g,0,none⟩) rs∧rs[0]? = some r0∧normQ q0=some r0∧greatQ r0=false
theorem NoF.up {w w':World} {q0:QL} {n:Nat} {X:Option Addr} {m:Nat} {hv:Int} (h:NoF w q0 n X m hv) (hb:Hid (Below w.heap.size w w')):NoF w' q0 n X m hv:=by
 rcases h with h | ⟨g,rs,r0,e1,e2,e3,h1,h2⟩
 ·exact .inl h
 ·exact .inr ⟨g,rs,r0,e1,e2,e3,h1.up hb,h2⟩
theorem NoF.al {w:World} {q0:QL} {n:Nat} {X:Option Addr} {m:Nat} {hv:Int} (h:NoF w q0 n X m hv) (o:Obj):NoF (w.alloc o) q0 n X m hv:=h.up ((Below.refl _ _).alloc (Nat.le_refl _) o)
theorem parse_metric {s0:ByteArray} {ps:List PL} (hR:metricT.parse s0 = .ok ps) (W:World) (base p:Nat) (x:_) (h:TabM base W p x metricT):Calls Tryz.prog 11 #[.pointer (some ⟨p,0,none⟩),.string s0] W (fun e w'=>∃ g c,e = .returned (.tuple #[.agg #[.slice (some ⟨g,0,none⟩) ps.length c],.int .i64 0])∧Qs w' (some ⟨g,0,none⟩) (ps.map ofP)∧Bel W w'):=by
 have h1:=tparse_h (s:=s0) h (by rw [metric_ents];omega) (by rw [metric_vals];omega) (fun a ha=>of_decide_eq_true (List.all_eq_true.1 metric_als a ha))
 rw [hR] at h1
 exact h1.mono fun e w' ⟨g,c,h2,_,_,h5,h6⟩=>⟨g,c,h2,h5,h6⟩
theorem norm_metric {qs:List QL} {n:Nat} {q0:QL} (hn:n=qs.length) (hl:n≤1000) (hf:∀ q ∈ qs,FitN q) (hg:qs.any greatQ=false) (hw:∀ q ∈ qs,Good32 q.2.2) (hq:qs[0]? = some q0) (W:World) (A:Option Addr) (c:Nat) (h:Qs W A qs):Calls Tryz.prog 21 #[.agg #[.slice A n c]] W (fun e w'=>∃ X m c' hv,e = .returned (.tuple #[.agg #[.slice X m c'],.int .i64 hv])∧NoF w' q0 n X m hv∧Bel W w'):=by
 refine (norm_any h hn hl hf rfl).mono fun e w' h9=>?_
 cases hres:normQs qs with
 | none =>
   rw [hres] at h9
   exact ⟨none,0,0,11,h9.1,.inl rfl,h9.2⟩
 | some rs =>
   rw [hres] at h9
   obtain ⟨g,c',e1,e2,e3⟩:=h9
   obtain ⟨h1,h2,h3⟩:=normQs_great hres hg hw
   obtain ⟨r0,hr,hr'⟩:=norms_zero hres hq
   exact ⟨_,_,c',0,e1,.inr ⟨g,rs,r0,rfl,by rw [h1,hn],rfl,e2,hr,hr',by simpa using List.any_eq_false.1 h2 r0 (List.mem_of_getElem? hr)⟩,e3⟩
theorem vec_metric {q0:QL} (hg:greatQ q0=false) {a:V8} {b:Bool} (ha:(metricT.vec (q0.1,q0.2.1)).getD V8.z=a) (hb:(metricT.vec (q0.1,q0.2.1)).isSome=b) (W:World) (base p:Nat) (x:_) (A1 A2 A3:Option Addr) (n1 c1 n2 c2 n3 c3:Nat) (h:TabM base W p x metricT) (hq:Q1 W (.slice A1 n1 c1) (.slice A2 n2 c2) (.slice A3 n3 c3) q0):Calls Tryz.prog 12 #[.pointer (some ⟨p,0,none⟩),.agg #[.slice A1 n1 c1,.slice A2 n2 c2,.slice A3 n3 c3]] W (fun e w'=>e = .returned (.tuple #[.agg #[.int .i64 a.x0,.int .i64 a.x1,.int .i64 a.x2,.int .i64 a.x3,.int .i64 a.x4,.int .i64 a.x5,.int .i64 a.x6,.int .i64 a.x7],.bool b])∧Bel W w'):=by
 have h1:=tvec_h (c1:=c1) (c2:=c2) (A3:=A3) (n3:=n3) (c3:=c3) h (q1_gr hq hg)
 rw [ha,hb] at h1
 exact h1
section
variable {W:World} {id:ByteArray}
theorem parses_long (tb:Tabs W) (hl:200 < id.size):Calls Tryz.prog 4 #[.string id] W (RetB W true):=by
 have CA:Hid (Calls Tryz.prog 7 #[] W (RetB W true)):=awake_h tb
 have CM:Hid (∀ W',Calls Tryz.prog 10 #[] W' (fun e w'=>e = .returned (.string metricS)∧Bel W' w')):=fun W'=>metric_h W'
 have CL:Hid (∀ W',Bel W W'→Calls Tryz.prog 9 #[.string metricS] W' (LoC W' metricT)):=fun W' hb=>metric_load (tb.up hb.hid)
 have d1:decide ((200:Int) < (id.size:Int))=true:=decide_eq_true (by omega)
 have d2:decide (200 < id.size)=true:=decide_eq_true hl
 clear hl tb
 go_enter Tryz.func4,Tryz.ntmps4
 go_wp2_with (first
  | (go_at_call 7;(with_reducible refine CA.out.mono ?_);rintro e w1 ⟨rfl,hb1⟩)
  | (go_at_call 10;(with_reducible refine (CM.out _).mono ?_);rintro e w2 ⟨rfl,hb2⟩)
  | (go_at_call 9;(with_reducible refine (CL.out _ (hb1.up hb2.hid)).mono ?_);rintro e w3 ⟨base,p,x,hbs,rfl,ht,hb3⟩)
  | fail)
 go_ret
 exact ⟨rfl,(hb1.up hb2.hid).up hb3.hid⟩
theorem parses_err (tb:Tabs W) (hl:¬ 200 < id.size) {v:Int} (hR:metricT.parse id = .error v):Calls Tryz.prog 4 #[.string id] W (RetB W true):=by
 have CA:Hid (Calls Tryz.prog 7 #[] W (RetB W true)):=awake_h tb
 have CM:Hid (∀ W',Calls Tryz.prog 10 #[] W' (fun e w'=>e = .returned (.string metricS)∧Bel W' w')):=fun W'=>metric_h W'
 have CL:Hid (∀ W',Bel W W'→Calls Tryz.prog 9 #[.string metricS] W' (LoC W' metricT)):=fun W' hb=>metric_load (tb.up hb.hid)
 have CP:Hid (∀ W' base p x,TabM base W' p x metricT→Calls Tryz.prog 11 #[.pointer (some ⟨p,0,none⟩),.string id] W' (fun e w'=>e = .returned (.tuple #[.agg #[.slice none 0 0],.int .i64 v])∧Bel W' w')):=fun W' base p x h=>by
  have h1:=tparse_h (s:=id) h (by rw [metric_ents];omega) (by rw [metric_vals];omega) (fun a ha=>of_decide_eq_true (List.all_eq_true.1 metric_als a ha))
  rw [hR] at h1
  exact h1
 have d1:decide ((200:Int) < (id.size:Int))=false:=decide_eq_false (by omega)
 have d2:decide (200 < id.size)=false:=decide_eq_false hl
 have q0:(v == 0)=false:=by rcases parse_errs hR with rfl | rfl <;> rfl
 have q1:(v != 0)=true:=by rcases parse_errs hR with rfl | rfl <;> rfl
 clear hl tb hR
 go_enter Tryz.func4,Tryz.ntmps4
 go_wp2_with (first
  | (go_at_call 7;(with_reducible refine CA.out.mono ?_);rintro e w1 ⟨rfl,hb1⟩)
  | (go_at_call 10;(with_reducible refine (CM.out _).mono ?_);rintro e w2 ⟨rfl,hb2⟩)
  | (go_at_call 9;(with_reducible refine (CL.out _ (hb1.up hb2.hid)).mono ?_);rintro e w3 ⟨base,p,x,hbs,rfl,ht,hb3⟩)
  | (go_at_call 11;(with_reducible refine (CP.out _ _ _ _ ht).mono ?_);rintro e w4 ⟨rfl,hb4⟩)
  | fail)
 go_ret
 exact ⟨rfl,(((hb1.up hb2.hid).up hb3.hid).up hb4.hid).al _⟩
theorem parses_ok (tb:Tabs W) (hl:¬ 200 < id.size) {ps:List PL} (hR:metricT.parse id = .ok ps):Calls Tryz.prog 4 #[.string id] W (RetB W true):=by
 have CA:Hid (Calls Tryz.prog 7 #[] W (RetB W true)):=awake_h tb
 have CM:Hid (∀ W',Calls Tryz.prog 10 #[] W' (fun e w'=>e = .returned (.string metricS)∧Bel W' w')):=fun W'=>metric_h W'
 have CL:Hid (∀ W',Bel W W'→Calls Tryz.prog 9 #[.string metricS] W' (LoC W' metricT)):=fun W' hb=>metric_load (tb.up hb.hid)
 obtain ⟨u0,hD⟩:=parse_unit hR
 obtain ⟨hfit,hne,hlen,hlp⟩:=unitD_more hD
 obtain ⟨hw,hgr,hmap,h4⟩:=unitD_fit hD
 have CP:=khide (parse_metric hR)
 have CP2:=khide (parse_metric (parse_again hR))
 obtain ⟨n,hn⟩:∃ z,ps.length=z:=⟨_,rfl⟩
 have hml:n=(ps.map ofP).length:=by rw [List.length_map,hn]
 have hn0:0 < n:=by rw [← hn];exact List.length_pos_iff.2 hne
 obtain ⟨qs,hqs⟩:∃ z,ps.map ofP=z:=⟨_,rfl⟩
 obtain ⟨u,hu⟩:∃ z,unitS ps=z:=⟨_,rfl⟩
 rw [hn,hqs] at CP CP2
 rw [hu] at CP2
 rw [hqs] at hml hmap hgr hw hlen hfit
 obtain ⟨q0,hq0⟩:∃ q,qs[0]? = some q:=⟨qs[0]'(by omega),List.getElem?_eq_getElem _⟩
 have hg0:greatQ q0=false:=by simpa using List.any_eq_false.1 hgr q0 (List.mem_of_getElem? hq0)
 have CS:Hid (∀ W A c,Qs W A qs→Calls Tryz.prog 17 #[.agg #[.slice A n c]] W (StrR W u)):=fun W A c h=>by
  have h9:=great_show (e:=c) h hml (by omega) hgr hw
  rwa [hmap,hu] at h9
 have CN:=khide (norm_metric hml (by omega) hfit hgr hw hq0)
 have CO:Hid (∀ W A c,Qs W A qs→Calls Tryz.prog 23 #[.agg #[.slice A n c]] W (fun e w'=>∃ R c',e = .returned (.slice R n c')∧Ps w' R ps∧Bel W w')):=fun W A c h=>by
  refine (partsOf11_any (c:=c) h hml (by omega) hlen).mono fun e w' h9=>?_
  rw [hmap] at h9
  obtain ⟨R,c',z,e1,e2,e3,e4⟩:=h9
  exact ⟨R,c',by rw [e2,e1.out,hn],e3,e4⟩
 have CE:Hid (∀ (W:World) (R R':Option Addr) (c c':Nat),Ps W R ps→Ps W R' ps→Calls Tryz.prog 22 #[.slice R n c,.slice R' n c'] W (RetB W true)):=fun W R R' c c' h1 h2=>by
  refine (sameParts11_any h1 h2 hn.symm hn.symm (by omega) (by omega) hlp hlp).mono fun e w' h9=>?_
  exact ⟨by rw [h9.1];exact congrArg _ (congrArg _ (decide_eq_true rfl)),bel_drewN (h9.2.choose_spec)⟩
 obtain ⟨a,ha⟩:∃ z,(metricT.vec (q0.1,q0.2.1)).getD V8.z=z:=⟨_,rfl⟩
 obtain ⟨o1,ho1⟩:∃ z,(metricT.vec (q0.1,q0.2.1)).isSome=z:=⟨_,rfl⟩
 have CV:=khide (vec_metric hg0 ha ho1)
 have HA:=khide ha;have HO1:=khide ho1;have HQ0:=khide hq0
 have d1:decide ((200:Int) < (id.size:Int))=false:=decide_eq_false (by omega)
 have d2:decide (200 < id.size)=false:=decide_eq_false hl
 have k1:(0:Int) < (n:Int):=by omega
 have k2:((n:Int) == 0)=false:=by simpa using (by omega:¬ n=0)
 have k3:¬ n=0:=by omega
 have k4:(n == 0)=false:=by simpa using k3
 clear hl tb hR hD hfit hne hlen hlp hw hgr hmap h4 hn hml hqs hu hg0 ha ho1 hq0
 go_enter Tryz.func4,Tryz.ntmps4
 go_upto_region 6 with (first
  | (go_at_call 7;(with_reducible refine CA.out.mono ?_);rintro e w1 ⟨rfl,hb1⟩)
  | (go_at_call 10;(with_reducible refine (CM.out _).mono ?_);rintro e w2 ⟨rfl,hb2⟩)
  | (go_at_call 9;(with_reducible refine (CL.out _ (hb1.up hb2.hid)).mono ?_);rintro e w3 ⟨base,p,x,hbs,rfl,ht,hb3⟩)
  | fail)
 have HB:=(hb1.up hb2.hid).up hb3.hid
 clear hb1 hb2 hb3 hbs CA CM CL
 go_upto_region 7 with (first | (go_at_call 11;(with_reducible refine (CP.out _ _ _ _ ht).mono ?_);rintro e w4 ⟨g,c,rfl,hq,hb⟩;replace ht:=ht.up hb.hid;replace HB:=HB.up hb.hid;clear hb) | fail)
 refine kwp_named ?_
 intro w5 hw5
 have H6:At w5 w4.heap.size [.slice (some ⟨g,0,none⟩) n c]:=by rw [hw5];exact at_new0 _ _ _
 replace ht:TabM base w5 p x metricT:=by rw [hw5];exact ht.al _
 replace hq:Qs w5 (some ⟨g,0,none⟩) qs:=by rw [hw5];exact hq.al _
 replace HB:Bel W w5:=by rw [hw5];exact HB.al _
 obtain ⟨q6,hq6⟩:∃ z,z=w4.heap.size:=⟨_,rfl⟩
 rw [← hq6] at H6 ⊢
 clear hw5 hq6 CP
 have e6:=H6.c0;have l6:=H6.lt
 go_upto_region 10 with (first
  | (go_at_call 17;(with_reducible refine (CS.out _ _ _ hq).mono ?_);rintro e w6 ⟨rfl,hb⟩;replace ht:=ht.up hb;replace hq:=hq.up hb;replace H6:=H6.up hb;replace HB:=HB.up hb;clear hb)
  | (go_at_call 11;(with_reducible refine (CP2.out _ _ _ _ ht).mono ?_);rintro e w7 ⟨g2,c2,rfl,hq2,hb⟩;replace ht:=ht.up hb.hid;replace hq:=hq.up hb.hid;replace H6:=H6.up hb.hid;replace HB:=HB.up hb.hid;clear hb)
  | fail)
 refine kwp_named ?_
 intro w8 hw8
 have H8:At w8 w7.heap.size [.slice (some ⟨g2,0,none⟩) n c2]:=by rw [hw8];exact at_new0 _ _ _
 replace ht:TabM base w8 p x metricT:=by rw [hw8];exact ht.al _
 replace hq:Qs w8 (some ⟨g,0,none⟩) qs:=by rw [hw8];exact hq.al _
 replace hq2:Qs w8 (some ⟨g2,0,none⟩) qs:=by rw [hw8];exact hq2.al _
 replace H6:At w8 q6 [.slice (some ⟨g,0,none⟩) n c]:=by rw [hw8];exact H6.al _
 replace HB:Bel W w8:=by rw [hw8];exact HB.al _
 obtain ⟨q8,hq8⟩:∃ z,z=w7.heap.size:=⟨_,rfl⟩
 rw [← hq8] at H8 ⊢
 clear hw8 hq8 CS CP2 e6 l6
 have e6:=H6.c0;have l6:=H6.lt
 go_upto_region 11 with (first | (go_at_call 21;(with_reducible refine (CN.out _ _ _ hq).mono ?_);rintro e w9 ⟨X,m,c3,hv,rfl,hN,hb⟩;replace ht:=ht.up hb.hid;replace hq:=hq.up hb.hid;replace hq2:=hq2.up hb.hid;replace H6:=H6.up hb.hid;replace H8:=H8.up hb.hid;replace HB:=HB.up hb.hid;clear hb) | fail)
 refine kwp_named ?_
 intro w10 hw10
 have H10:At w10 w9.heap.size [.slice X m c3]:=by rw [hw10];exact at_new0 _ _ _
 replace ht:TabM base w10 p x metricT:=by rw [hw10];exact ht.al _
 replace hq:Qs w10 (some ⟨g,0,none⟩) qs:=by rw [hw10];exact hq.al _
 replace hq2:Qs w10 (some ⟨g2,0,none⟩) qs:=by rw [hw10];exact hq2.al _
 replace hN:NoF w10 q0 n X m hv:=by rw [hw10];exact hN.al _
 replace H6:At w10 q6 [.slice (some ⟨g,0,none⟩) n c]:=by rw [hw10];exact H6.al _
 replace H8:At w10 q8 [.slice (some ⟨g2,0,none⟩) n c2]:=by rw [hw10];exact H8.al _
 replace HB:Bel W w10:=by rw [hw10];exact HB.al _
 obtain ⟨q10,hq10⟩:∃ z,z=w9.heap.size:=⟨_,rfl⟩
 rw [← hq10] at H10 ⊢
 clear hw10 hq10 CN e6 l6
 have HS:Hid (∀ w':World,Bel w10 w'→w'.cell? ⟨q6,0,none⟩=some (.slice (some ⟨g,0,none⟩) n c)∧w'.cell? ⟨q8,0,none⟩=some (.slice (some ⟨g2,0,none⟩) n c2)):=fun w' hw=>⟨(hw.cell H6.lt).trans H6.c0,(hw.cell H8.lt).trans H8.c0⟩
 have HBX:Bel w10 w10:=Bel.refl _
 refine wp_region_held_drew (S:=fun w'=>w'.cell? ⟨q6,0,none⟩=some (.slice (some ⟨g,0,none⟩) n c)∧w'.cell? ⟨q8,0,none⟩=some (.slice (some ⟨g2,0,none⟩) n c2)) (by kernel_rfl) ?_ (fun hHeld=>?_)
 ·exact HS.out _ (Bel.refl _).dr
 refine tq 0 ?_
 refine tq 1 ?_
 refine tq 2 ?_
 refine tq 3 ?_
 refine tq 5 ?_
 (refine sk 4 (fun K hK=>?_);go_simp;(go_at_call 23;(with_reducible refine (CO.out _ _ _ hq.dr).mono ?_);rintro e wx ⟨R1,d3,rfl,HR1,hb⟩;replace HBX:Bel w10 wx:=(Bel.refl w10).dr.up hb.hid;clear hb);(try (go_wp2_with fail));refine hK.out _ _ ?_ (fun hHeld=>?_);(focus ((try dsimp only);exact HS.out _ HBX));clear hK K;(try simp only [lay7,Act.put]))
 (refine sk 6 (fun K hK=>?_);go_simp;(go_at_call 23;(with_reducible refine (CO.out _ _ _ (hq2.up HBX.hid)).mono ?_);rintro e wy ⟨R2,d4,rfl,HR2,hb⟩;replace HBX:Bel w10 wy:=HBX.up hb.hid;replace HR1:=HR1.up (Bel.hid hb);clear hb);(try (go_wp2_with fail));refine hK.out _ _ ?_ (fun hHeld=>?_);(focus ((try dsimp only);exact HS.out _ HBX));clear hK K;(try simp only [lay7,Act.put]))
 (refine sk 7 (fun K hK=>?_);go_simp;(go_at_call 22;(with_reducible refine (CE.out _ _ _ _ _ HR1 HR2).mono ?_);rintro e wz ⟨rfl,hb⟩;replace HBX:Bel w10 wz:=HBX.up (Bel.hid hb);clear hb);(try (go_wp2_with fail));refine hK.out _ _ ?_ (fun hHeld=>?_);(focus ((try dsimp only);exact HS.out _ HBX));clear hK K;(try simp only [lay7,Act.put]))
 refine tq 8 ?_
 refine tq 9 ?_
 refine tq 10 ?_
 refine tq 11 ?_
 refine tq 12 ?_
 refine tq 13 ?_
 refine tq 14 ?_
 refine tq 15 ?_
 refine wpAnyH_done (by decide +kernel) ?_ _
 clear hHeld HS HR1 HR2 CO CE
 replace ht:=ht.up HBX.hid;replace hq:=hq.up HBX.hid;replace hN:=hN.up HBX.hid;replace H6:=H6.up HBX.hid;replace H10:=H10.up HBX.hid
 replace HB:=HB.up HBX.hid
 clear HBX
 go_upto_region 13 with fail
 rcases hN with rfl | ⟨g3,rs,r0,rfl,rfl,rfl,hq3,hr0,hnr,hgr⟩
 ·go_wp2_with fail
  go_ret
  exact ⟨rfl,HB⟩
 obtain ⟨b,hb⟩:∃ z,(metricT.vec (r0.1,r0.2.1)).getD V8.z=z:=⟨_,rfl⟩
 obtain ⟨o2,ho2⟩:∃ z,(metricT.vec (r0.1,r0.2.1)).isSome=z:=⟨_,rfl⟩
 have CW:=khide (vec_metric hgr hb ho2)
 have HE:=metric_vec hnr HA.out HO1.out hb ho2
 clear hnr hgr hb ho2 HA HO1
 have e10:=H10.c0;have l10:=H10.lt;have f10:=H10.f0
 have e6:=H6.c0;have l6:=H6.lt;have f6:=H6.f0
 obtain ⟨A1,n1,c1,A2,n2,c4,A3,n3,c5,lg,a0,a1,a2,HQ⟩:=qs_zero hq HQ0.out
 go_upto_region 18 with (first
  | (go_at_call 12;(with_reducible refine (CV.out _ _ _ _ _ _ _ _ _ _ _ _ _ ht HQ).mono ?_);rintro e w13 ⟨rfl,hb⟩;replace ht:=ht.up hb.hid;replace hq3:=hq3.up hb.hid;replace H10:=H10.up hb.hid;replace HB:=HB.up hb.hid;clear hb)
  | (refine wpList_store_new 36 [.int .i64 a.x0,.int .i64 a.x1,.int .i64 a.x2,.int .i64 a.x3,.int .i64 a.x4,.int .i64 a.x5,.int .i64 a.x6,.int .i64 a.x7] (.tmp 12) (.tmp 90) _ rfl rfl rfl rfl (by kernel_rfl) rfl rfl ?_)
  | fail)
 refine kwp_named ?_
 intro w14 hw14
 have H12:At w14 w13.heap.size [.int .i64 a.x0,.int .i64 a.x1,.int .i64 a.x2,.int .i64 a.x3,.int .i64 a.x4,.int .i64 a.x5,.int .i64 a.x6,.int .i64 a.x7]:=by rw [hw14];exact at_new0 _ _ _
 have hb14:Bel w13 w14:=by rw [hw14];exact (Bel.refl _).al _
 replace ht:=ht.up hb14.hid;replace hq3:=hq3.up hb14.hid;replace H10:=H10.up hb14.hid;replace HB:=HB.up hb14.hid
 obtain ⟨q12,hq12⟩:∃ z,z=w13.heap.size:=⟨_,rfl⟩
 rw [← hq12] at H12 ⊢
 clear hw14 hq12 hb14 CV e10 l10 f10 e6 l6 f6 lg a0 a1 a2 HQ
 have e10:=H10.c0;have l10:=H10.lt;have f10:=H10.f0
 obtain ⟨B1,m1,d1',B2,m2,d2',B3,m3,d5,lg,a0,a1,a2,HQ⟩:=qs_zero hq3 hr0
 go_upto_region 19 with (first
  | (go_at_call 12;(with_reducible refine (CW.out _ _ _ _ _ _ _ _ _ _ _ _ _ ht HQ).mono ?_);rintro e w15 ⟨rfl,hb⟩;replace H12:=H12.up hb.hid;replace HB:=HB.up hb.hid;clear hb)
  | (refine wpList_store_new 36 [.int .i64 b.x0,.int .i64 b.x1,.int .i64 b.x2,.int .i64 b.x3,.int .i64 b.x4,.int .i64 b.x5,.int .i64 b.x6,.int .i64 b.x7] (.tmp 14) (.tmp 99) _ rfl rfl rfl rfl (by kernel_rfl) rfl rfl ?_)
  | fail)
 refine kwp_named ?_
 intro w16 hw16
 have H14:At w16 w15.heap.size [.int .i64 b.x0,.int .i64 b.x1,.int .i64 b.x2,.int .i64 b.x3,.int .i64 b.x4,.int .i64 b.x5,.int .i64 b.x6,.int .i64 b.x7]:=by rw [hw16];exact at_new0 _ _ _
 have hb16:Bel w15 w16:=by rw [hw16];exact (Bel.refl _).al _
 replace H12:=H12.up hb16.hid;replace HB:=HB.up hb16.hid
 obtain ⟨q14,hq14⟩:∃ z,z=w15.heap.size:=⟨_,rfl⟩
 rw [← hq14] at H14 ⊢
 clear hw16 hq14 hb16 CW e10 l10 f10 lg a0 a1 a2 HQ ht hq hq2 hq3 H6 H8 H10
 have i0:=H12.c0;have i1:=H12.c1;have i2:=H12.c2;have i3:=at_nth H12 3 rfl;have i4:=at_nth H12 4 rfl;have i5:=at_nth H12 5 rfl;have i6:=at_nth H12 6 rfl;have i7:=at_nth H12 7 rfl;have il:=H12.lt
 have j0:=H14.c0;have j1:=H14.c1;have j2:=H14.c2;have j3:=at_nth H14 3 rfl;have j4:=at_nth H14 4 rfl;have j5:=at_nth H14 5 rfl;have j6:=at_nth H14 6 rfl;have j7:=at_nth H14 7 rfl;have jl:=H14.lt
 have QV:o1=true→o2=true → ∀ w:World,(binOp .eql 36 (.agg #[.int .i64 a.x0,.int .i64 a.x1,.int .i64 a.x2,.int .i64 a.x3,.int .i64 a.x4,.int .i64 a.x5,.int .i64 a.x6,.int .i64 a.x7]) (.agg #[.int .i64 b.x0,.int .i64 b.x1,.int .i64 b.x2,.int .i64 b.x3,.int .i64 b.x4,.int .i64 b.x5,.int .i64 b.x6,.int .i64 b.x7])).run Tryz.prog w = .ok (.bool true) w:=fun h1 h2 w=>v8_eq w a b (HE h1 h2)
 clear HE H12 H14
 cases o1
 ·go_wp2_with fail
  go_ret
  exact ⟨rfl,HB⟩
 cases o2
 ·go_wp2_with fail
  go_ret
  exact ⟨rfl,HB⟩
 replace QV:=QV rfl rfl
 go_wp2_with fail
 go_ret
 exact ⟨rfl,HB⟩
theorem parses_law (tb:Tabs W):Calls Tryz.prog 4 #[.string id] W (RetB W true):=by
 by_cases h:200 < id.size
 ·exact parses_long tb h
 ·cases hR:metricT.parse id with
  | error v=>exact parses_err tb h hR
  | ok ps=>exact parses_ok tb h hR
end
end Go.Proofs.YtfflmmbhpchloaaGreatDoor
end
