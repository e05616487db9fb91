/- Each theorem here says its own conditions. -/
import Derived.Test.YtfflmmbhpchloaaGreatDoorGTpwc32
import Derived.Test.YtfflmmbhpchloaaGreatDoorTj
set_option maxRecDepth 100000
set_option maxHeartbeats 16000000
section
open Go.RowKit
open Go.Proofs.YtfflmmbhpchloaaGreatDoor.V
namespace Go.Proofs.YtfflmmbhpchloaaGreatDoor
theorem PtR.up {W W':World} {A A':Option Addr} {n n':Nat} {l l':List AL} (h:PtR W A n A' n' l l') (hb:Hid (Below W.heap.size W W')):PtR W' A n A' n' l l':=⟨h.h1.up hb,h.h2.up hb,h.e1,h.e2,h.s,h.b⟩
theorem Bel.sz {W W':World} (h:Bel W W'):W.heap.size≤W'.heap.size:=Below.size h
theorem at_row {W:World} {q:Nat} {vs:List Value} {old:Array Value} {t:TypeId} (h:W.heap[q]? = some (.cells old t (0,0))):At (W.setRow q vs.toArray) q vs:=by
 have e:(W.setRow q vs.toArray).heap[q]? = some (.cells vs.toArray t (0,0)):=setRow_heap W q old vs.toArray t _ h
 refine ⟨(Array.getElem?_eq_some_iff.1 e).1,fun i v hi=>⟨?_,by simp [World.frozen?,e]⟩⟩
 rw [cell_of_row _ _ i _ _ (0,0) e]
 simpa using hi
theorem bel_row {W W':World} {q:Nat} {cs:Array Value} (h:Bel W W') (hq:W.heap.size≤q):Bel W (W'.setRow q cs):=below_setRow h hq cs
theorem row_keep {W V:World} {o:Obj} (hb:Hid (Below (W.alloc o).heap.size (W.alloc o) V)):V.heap[W.heap.size]? = some o:=(hb.out.block _ (heap_lt W o)).trans (heap_alloc_new W o)
theorem row_keepd {W V:World} {o:Obj} (hb:Hid (Below (W.alloc o).drew.heap.size (W.alloc o).drew V)):V.heap[W.heap.size]? = some o:=(hb.out.block _ (heap_lt W o)).trans (heap_alloc_new W o)
theorem qa_of {W:World} {s:Bool} {A A':Option Addr} {n c n' c' K:Nat} {r:Rat} (hz:ZA W s A n c r.num) (hd:Nm W A' n' c' r.den) (hb:Bd r K):QA W s A n c A' n' c' r K:=⟨r.num,r.den,hz,hd,⟨Rat.mkRat_self r,hb.1,hb.2⟩⟩
theorem Tb.define_eq {T:Tb} {s id:ByteArray} {ba:Int} {fac off full fr full0:Rat} {has cnd bl:Bool} {v0:V8} {q:PL} {vo:Option V8} (hc:(has && !T.isBase id || T.offs (q.1,q.2.1))=cnd) (hv:T.vec (q.1,q.2.1)=vo) (hfr:T.factor q=fr) (hfull:fac * fr=full) (hbl:longB full=bl) :
 T.define s ⟨id,ba,fac,off,has,v0,full0⟩ q=if cnd=true then .error 6 else match (generalizing:=false) vo with
  | none=>.error 5
  | some v=>if bl=true then .error 11 else .ok { T with ents:=T.ents ++ [(s,⟨id,ba,fac,off,has,v,full⟩)] }:=by
 subst hc;subst hv;subst hfr;subst hfull;subst hbl
 unfold Tb.define
 dsimp only
 have e:((has=true∧T.isBase id=false) ∨ T.offs (q.1,q.2.1)=true)=((has && !T.isBase id || T.offs (q.1,q.2.1))=true):=by
  cases has <;> cases T.isBase id <;> cases T.offs (q.1,q.2.1) <;> simp
 by_cases hh:(has && !T.isBase id || T.offs (q.1,q.2.1))=true
 ·rw [if_pos hh,if_pos (e ▸ hh)]
 ·rw [if_neg hh,if_neg (fun h=>hh (e ▸ h))]
  cases T.vec (q.1,q.2.1) <;> rfl
section
variable {base p g y N:Nat} {W W':World} {x:TPl} {T:Tb} {s:ByteArray} {e:Ent} {b b2:Bool} {A A' B B' A1 A2 A3:Option Addr} {n c n' c' m d m' d' n1 c1 n2 c2 n3 c3:Nat} {q:PL}
theorem tdefine_h (h:LdM base W g p y x T) (ok:OkT N T) (hN:N≤900000) (hbase:base≤W.heap.size) (hn:lookL T.ents s=none) (hs:s.size≤2000000) (hid:e.id.size≤2000000) (hq:PtOk T.names q) (hq1:Q1 W (.slice A1 n1 c1) (.slice A2 n2 c2) (.slice A3 n3 c3) (ofP q)) (hf:QA W b A n c A' n' c' e.fac 101) (ho:QA W b2 B m d B' m' d' e.off 101) (hfb:Bd e.fac 101) :
 Calls Tryz.prog 131 #[.pointer (some ⟨g,0,none⟩),.agg #[.string s,.string e.id,.int .i64 e.base,.bool b,.slice A n c,.slice A' n' c',.bool b2,.slice B m d,.slice B' m' d',.bool e.has],.agg #[.slice A1 n1 c1,.slice A2 n2 c2,.slice A3 n3 c3]] W (StR base W g p y x (T.define s e q)):=by
 obtain ⟨id,ba,fac,off,has,v0,full0⟩:=e
 dsimp only at hid hf ho hfb ⊢
 obtain ⟨hpt,hnm⟩:=q1_pt hq1 hq
 obtain ⟨bb,hbb⟩:∃ z,T.isBase id=z:=⟨_,rfl⟩
 obtain ⟨bo,hbo⟩:∃ z,T.offs (q.1,q.2.1)=z:=⟨_,rfl⟩
 obtain ⟨cnd,hcnd⟩:∃ z,(has && !bb || bo)=z:=⟨_,rfl⟩
 obtain ⟨vo,hvo⟩:∃ z,T.vec (q.1,q.2.1)=z:=⟨_,rfl⟩
 obtain ⟨vv,hvv⟩:∃ z,vo.getD V8.z=z:=⟨_,rfl⟩
 obtain ⟨ob,hob⟩:∃ z,vo.isSome=z:=⟨_,rfl⟩
 obtain ⟨fr,hfr⟩:∃ z,T.factor q=z:=⟨_,rfl⟩
 obtain ⟨full,hfull⟩:∃ z,fac * fr=z:=⟨_,rfl⟩
 obtain ⟨bl,hbl⟩:∃ z,longB full=z:=⟨_,rfl⟩
 have hfrb:Bd fr 1900:=hfr ▸ factor_bd ok hq
 have CB:Hid (∀ W',Bel W W'→Calls Tryz.prog 182 #[.pointer (some ⟨p,0,none⟩),.string id] W' (RetB W' bb)):=fun W' hb=>hbb ▸ tbase_h (h.tab.up hb.hid) hid
 have CO:Hid (∀ W',Bel W W'→Calls Tryz.prog 183 #[.pointer (some ⟨p,0,none⟩),.agg #[.slice A1 n1 c1,.slice A2 n2 c2,.slice A3 n3 c3]] W' (RetB W' bo)):=fun W' hb=>hbo ▸ toffs_h (h.tab.up hb.hid) (hpt.up hb.hid)
 have CV:Hid (∀ W',Bel W W'→Calls Tryz.prog 12 #[.pointer (some ⟨p,0,none⟩),.agg #[.slice A1 n1 c1,.slice A2 n2 c2,.slice A3 n3 c3]] W' (fun e w'=>e = .returned (.tuple #[vv.v,.bool ob])∧Bel W' w')):=fun W' hb=>by
  rw [← hob,← hvv,← hvo];exact tvec_h (h.tab.up hb.hid) (hpt.up hb.hid)
 have CF:Hid (∀ W',Bel W W'→Calls Tryz.prog 185 #[.pointer (some ⟨g,0,none⟩),.agg #[.slice A1 n1 c1,.slice A2 n2 c2,.slice A3 n3 c3]] W' (QRw W' false fr)):=fun W' hb=>by
  have h1:=tfactor_h (c1:=c1) (c2:=c2) (h.up hb.hid) ok (hpt.up hb.hid) (hnm.up hb.hid) (nu_pos hq.num) (nu_lt hq.num) hq.len (fun a ha=>⟨known_ent (hq.at_ a ha),(hq.at_ a ha).2.2.2.1,(hq.at_ a ha).2.2.2.2⟩)
  rw [← hfr];exact h1
 have CM:Hid (∀ W' A5 c5 A6 c6,Bel W W'→ZA W' false A5 (dl fr.num.natAbs) c5 fr.num→Nm W' A6 (dl fr.den) c6 fr.den→Calls Tryz.prog 184 #[.agg #[.bool b,.slice A n c,.slice A' n' c'],.agg #[.bool false,.slice A5 (dl fr.num.natAbs) c5,.slice A6 (dl fr.den) c6]] W' (QR W' full)):=fun W' A5 c5 A6 c6 hb hz hd =>
  hfull ▸ rmul_h (K:=1900) ((hf.up hb.hid).more (by omega)) (qa_of hz hd hfrb) (by decide) (by decide)
 have CL:Hid (∀ W' sg A5 n5 c5 A6 n6 c6,ZA W' sg A5 n5 c5 full.num→Nm W' A6 n6 c6 full.den→Calls Tryz.prog 186 #[.agg #[.bool sg,.slice A5 n5 c5,.slice A6 n6 c6]] W' (RetB W' bl)):=fun W' sg A5 n5 c5 A6 n6 c6 hz hd=>hbl ▸ tlong_h hz hd
 have CP:Hid (∀ W' sg A5 n5 c5 A6 n6 c6 v,Bel W W'→ZA W' sg A5 n5 c5 full.num→Nm W' A6 n6 c6 full.den→bl=false→Calls Tryz.prog 122 #[.pointer (some ⟨g,0,none⟩),.agg #[.string s,.string id,.int .i64 ba,.bool b,.slice A n c,.slice A' n' c',.bool b2,.slice B m d,.slice B' m' d',.bool has],.agg #[.int .i64 v.x0,.int .i64 v.x1,.int .i64 v.x2,.int .i64 v.x3,.int .i64 v.x4,.int .i64 v.x5,.int .i64 v.x6,.int .i64 v.x7],.agg #[.bool sg,.slice A5 n5 c5,.slice A6 n6 c6]] W' fun r w'=>(∃ v,r = .returned v)∧Stp base W' g p y x { T with ents:=T.ents ++ [(s,⟨id,ba,fac,off,has,v,full⟩)] } w'):=fun W' sg A5 n5 c5 A6 n6 c6 v hb hz hd hl =>
  tput_h (e:=⟨id,ba,fac,off,has,v,full⟩) (h.up hb.hid) (Nat.le_trans hbase hb.hid.out.size) hn hs (Nat.le_trans ok.l1 hN) (hf.up hb.hid) (ho.up hb.hid) (qa_of hz hd (long_bd (hbl.trans hl)))
 have HDE:=khide (Tb.define_eq (s:=s) (ba:=ba) (off:=off) (v0:=v0) (full0:=full0) (cnd:=cnd) (by rw [hbb,hbo];exact hcnd) hvo hfr hfull hbl)
 have HC:=khide hcnd
 have HM:=khide h
 obtain ⟨R,hR⟩:∃ z,T.define s ⟨id,ba,fac,off,has,v0,full0⟩ q=z:=⟨_,rfl⟩
 rw [hR] at HDE ⊢
 have HVV:=khide hvv
 have HOB:=khide hob
 obtain ⟨W1,hW1⟩:∃ X,X=(W.alloc (.cells #[.string s,.string id,.int .i64 ba,.bool b,.slice A n c,.slice A' n' c',.bool b2,.slice B m d,.slice B' m' d',.bool has] 55)).alloc (.cells #[.slice A1 n1 c1,.slice A2 n2 c2,.slice A3 n3 c3] 44):=⟨_,rfl⟩
 have HE:At W1 W.heap.size [.string s,.string id,.int .i64 ba,.bool b,.slice A n c,.slice A' n' c',.bool b2,.slice B m d,.slice B' m' d',.bool has]:=by rw [hW1];exact (at_new0 _ _ _).al _
 have HP:At W1 (W.heap.size + 1) [.slice A1 n1 c1,.slice A2 n2 c2,.slice A3 n3 c3]:=by rw [hW1];exact at_new1 _ _ _ _
 have HB:Bel W W1:=by rw [hW1];exact ((Bel.refl W).al _).al _
 have HW:=khide hW1
 obtain ⟨qe,hqe⟩:∃ z,z=W.heap.size:=⟨_,rfl⟩
 obtain ⟨qp,hqp⟩:∃ z,z=W.heap.size + 1:=⟨_,rfl⟩
 rw [← hqe] at HE
 rw [← hqp] at HP
 have HQE:=khide hqe
 have HQP:=khide hqp
 clear hR hvv hob h ok hN hbase hn hs hid hq hq1 hf ho hfb hpt hnm hbb hbo hvo hfr hfull hbl hfrb hcnd hW1
 go_enter Tryz.func131,Tryz.ntmps131
 go_upto_region 1 with fail
 rw [← HW.out,show Value.pointer (some ⟨W.heap.size,0,none⟩)=Value.pointer (some ⟨qe,0,none⟩) by rw [hqe],show Value.pointer (some ⟨W.heap.size + 1,0,none⟩)=Value.pointer (some ⟨qp,0,none⟩) by rw [hqp]]
 clear hqe hqp HW
 go_cut [29] from 10 to 29 (fun v w'=>v = .bool cnd∧Bel W1 w')
 case first =>
  have HM1:=khide (HM.out.up HB.hid)
  have HS:Hid (∀ w':World,Bel W1 w'→w'.cell? ⟨qe,9,none⟩=some (.bool has)∧w'.cell? ⟨qe,1,none⟩=some (.string id)∧w'.cell? ⟨g,0,none⟩=some (.pointer (some ⟨p,0,none⟩))∧w'.cell? ⟨qp,0,none⟩=some (.slice A1 n1 c1)∧w'.cell? ⟨qp,1,none⟩=some (.slice A2 n2 c2)∧w'.cell? ⟨qp,2,none⟩=some (.slice A3 n3 c3)):=fun w' hw =>
   ⟨(hw.cell HE.lt).trans (at_nth HE 9 rfl),(hw.cell HE.lt).trans HE.c1,(hw.cell HM1.out.lt).trans HM1.out.c0,(hw.cell HP.lt).trans HP.c0,(hw.cell HP.lt).trans HP.c1,(hw.cell HP.lt).trans HP.c2⟩
  have HBX:Bel W1 W1:=Bel.refl _
  have hL1:=HE.lt;have hL2:=HP.lt;have hL3:=HM1.out.lt
  cases has
  ·obtain rfl:bo=cnd:=by have h1:=HC.out;simpa using h1
   refine wp_region_held_drew (S:=fun w'=>w'.cell? ⟨qe,9,none⟩=some (.bool false)∧w'.cell? ⟨qe,1,none⟩=some (.string id)∧w'.cell? ⟨g,0,none⟩=some (.pointer (some ⟨p,0,none⟩))∧w'.cell? ⟨qp,0,none⟩=some (.slice A1 n1 c1)∧w'.cell? ⟨qp,1,none⟩=some (.slice A2 n2 c2)∧w'.cell? ⟨qp,2,none⟩=some (.slice A3 n3 c3)) (by kernel_rfl) ?_ (fun hHeld=>?_)
   ·exact HS.out _ (Bel.refl _).dr
   refine tq 0 ?_
   refine tq 1 ?_
   refine tq 2 ?_
   refine pk 3 ?_
   refine pk 4 ?_
   refine pk 5 ?_
   refine pk 6 ?_
   refine pk 7 ?_
   refine pk 8 ?_
   refine pk 9 ?_
   refine pk 10 ?_
   refine tq 11 ?_
   refine tq 12 ?_
   refine tq 13 ?_
   refine tq 14 ?_
   refine tq 15 ?_
   refine tq 16 ?_
   refine tq 17 ?_
   (refine sk 18 (fun K hK=>?_);go_simp;(first | (go_at_call 183;refine (CO.out _ (by with_reducible first | exact HB.dr | exact (HB.al _).dr | exact HB.up (Bel.hid HBX) | exact (HB.up (Bel.hid HBX)).al _)).mono ?_;rintro e wc ⟨rfl,hbk⟩;replace HBX:Bel W1 wc:=(by with_reducible first | exact HBX.up (Bel.hid hbk) | exact (HBX.al _).up (Bel.hid hbk) | exact (Bel.refl W1).dr.up (Bel.hid hbk) | exact ((Bel.refl W1).al _).dr.up (Bel.hid hbk));skip) | fail);(try (go_wp2_with fail));refine hK.out _ _ ?_ (fun hHeld=>?_);(focus ((try dsimp only);exact HS.out _ (by with_reducible first | exact HBX | exact HBX.al _ | exact ((Bel.refl W1).al _).dr)));clear hK K;(try simp only [lay7,Act.put]))
   refine tq 19 ?_
   refine wpAnyH_done (by decide +kernel) ?_ _
   go_wp2_with fail
   go_meet
   case rel=>exact ⟨rfl,HBX⟩
  ·cases bb
   ·obtain rfl:true=cnd:=by have h1:=HC.out;simpa using h1
    refine wp_region_held_drew (S:=fun w'=>w'.cell? ⟨qe,9,none⟩=some (.bool true)∧w'.cell? ⟨qe,1,none⟩=some (.string id)∧w'.cell? ⟨g,0,none⟩=some (.pointer (some ⟨p,0,none⟩))∧w'.cell? ⟨qp,0,none⟩=some (.slice A1 n1 c1)∧w'.cell? ⟨qp,1,none⟩=some (.slice A2 n2 c2)∧w'.cell? ⟨qp,2,none⟩=some (.slice A3 n3 c3)) (by kernel_rfl) ?_ (fun hHeld=>?_)
    ·exact HS.out _ (Bel.refl _).dr
    refine tq 0 ?_
    refine tq 1 ?_
    refine tq 2 ?_
    refine tq 3 ?_
    refine tq 4 ?_
    refine tq 5 ?_
    refine tq 6 ?_
    refine tq 7 ?_
    refine tq 8 ?_
    (refine sk 9 (fun K hK=>?_);go_simp;(first | (go_at_call 182;refine (CB.out _ (by with_reducible first | exact HB.dr | exact (HB.al _).dr | exact HB.up (Bel.hid HBX) | exact (HB.up (Bel.hid HBX)).al _)).mono ?_;rintro e wc ⟨rfl,hbk⟩;replace HBX:Bel W1 wc:=(by with_reducible first | exact HBX.up (Bel.hid hbk) | exact (HBX.al _).up (Bel.hid hbk) | exact (Bel.refl W1).dr.up (Bel.hid hbk) | exact ((Bel.refl W1).al _).dr.up (Bel.hid hbk));skip) | fail);(try (go_wp2_with fail));refine hK.out _ _ ?_ (fun hHeld=>?_);(focus ((try dsimp only);exact HS.out _ (by with_reducible first | exact HBX | exact HBX.al _ | exact ((Bel.refl W1).al _).dr)));clear hK K;(try simp only [lay7,Act.put]))
    refine tq 10 ?_
    refine tq 11 ?_
    refine tq 12 ?_
    refine pk 13 ?_
    refine pk 14 ?_
    refine pk 15 ?_
    refine pk 16 ?_
    refine pk 17 ?_
    refine pk 18 ?_
    refine tq 19 ?_
    refine wpAnyH_done (by decide +kernel) ?_ _
    go_wp2_with fail
    go_meet
    case rel=>exact ⟨rfl,HBX⟩
   ·obtain rfl:bo=cnd:=by have h1:=HC.out;simpa using h1
    refine wp_region_held_drew (S:=fun w'=>w'.cell? ⟨qe,9,none⟩=some (.bool true)∧w'.cell? ⟨qe,1,none⟩=some (.string id)∧w'.cell? ⟨g,0,none⟩=some (.pointer (some ⟨p,0,none⟩))∧w'.cell? ⟨qp,0,none⟩=some (.slice A1 n1 c1)∧w'.cell? ⟨qp,1,none⟩=some (.slice A2 n2 c2)∧w'.cell? ⟨qp,2,none⟩=some (.slice A3 n3 c3)) (by kernel_rfl) ?_ (fun hHeld=>?_)
    ·exact HS.out _ (Bel.refl _).dr
    refine tq 0 ?_
    refine tq 1 ?_
    refine tq 2 ?_
    refine tq 3 ?_
    refine tq 4 ?_
    refine tq 5 ?_
    refine tq 6 ?_
    refine tq 7 ?_
    refine tq 8 ?_
    (refine sk 9 (fun K hK=>?_);go_simp;(first | (go_at_call 182;refine (CB.out _ (by with_reducible first | exact HB.dr | exact (HB.al _).dr | exact HB.up (Bel.hid HBX) | exact (HB.up (Bel.hid HBX)).al _)).mono ?_;rintro e wc ⟨rfl,hbk⟩;replace HBX:Bel W1 wc:=(by with_reducible first | exact HBX.up (Bel.hid hbk) | exact (HBX.al _).up (Bel.hid hbk) | exact (Bel.refl W1).dr.up (Bel.hid hbk) | exact ((Bel.refl W1).al _).dr.up (Bel.hid hbk));skip) | (go_at_call 183;refine (CO.out _ (by with_reducible first | exact HB.dr | exact (HB.al _).dr | exact HB.up (Bel.hid HBX) | exact (HB.up (Bel.hid HBX)).al _)).mono ?_;rintro e wc ⟨rfl,hbk⟩;replace HBX:Bel W1 wc:=(by with_reducible first | exact HBX.up (Bel.hid hbk) | exact (HBX.al _).up (Bel.hid hbk) | exact (Bel.refl W1).dr.up (Bel.hid hbk) | exact ((Bel.refl W1).al _).dr.up (Bel.hid hbk));skip) | fail);(try (go_wp2_with fail));refine hK.out _ _ ?_ (fun hHeld=>?_);(focus ((try dsimp only);exact HS.out _ (by with_reducible first | exact HBX | exact HBX.al _ | exact ((Bel.refl W1).al _).dr)));clear hK K;(try simp only [lay7,Act.put]))
    refine tq 10 ?_
    refine tq 11 ?_
    refine tq 12 ?_
    refine tq 13 ?_
    refine tq 14 ?_
    refine tq 15 ?_
    refine tq 16 ?_
    refine tq 17 ?_
    (refine sk 18 (fun K hK=>?_);go_simp;(first | (go_at_call 182;refine (CB.out _ (by with_reducible first | exact HB.dr | exact (HB.al _).dr | exact HB.up (Bel.hid HBX) | exact (HB.up (Bel.hid HBX)).al _)).mono ?_;rintro e wc ⟨rfl,hbk⟩;replace HBX:Bel W1 wc:=(by with_reducible first | exact HBX.up (Bel.hid hbk) | exact (HBX.al _).up (Bel.hid hbk) | exact (Bel.refl W1).dr.up (Bel.hid hbk) | exact ((Bel.refl W1).al _).dr.up (Bel.hid hbk));skip) | (go_at_call 183;refine (CO.out _ (by with_reducible first | exact HB.dr | exact (HB.al _).dr | exact HB.up (Bel.hid HBX) | exact (HB.up (Bel.hid HBX)).al _)).mono ?_;rintro e wc ⟨rfl,hbk⟩;replace HBX:Bel W1 wc:=(by with_reducible first | exact HBX.up (Bel.hid hbk) | exact (HBX.al _).up (Bel.hid hbk) | exact (Bel.refl W1).dr.up (Bel.hid hbk) | exact ((Bel.refl W1).al _).dr.up (Bel.hid hbk));skip) | fail);(try (go_wp2_with fail));refine hK.out _ _ ?_ (fun hHeld=>?_);(focus ((try dsimp only);exact HS.out _ (by with_reducible first | exact HBX | exact HBX.al _ | exact ((Bel.refl W1).al _).dr)));clear hK K;(try simp only [lay7,Act.put]))
    refine tq 19 ?_
    refine wpAnyH_done (by decide +kernel) ?_ _
    go_wp2_with fail
    go_meet
    case rel=>exact ⟨rfl,HBX⟩
 case rest =>
 obtain ⟨rfl,hw2⟩:=hcut
 replace HE:=HE.up (Bel.hid hw2)
 replace HP:=HP.up (Bel.hid hw2)
 replace HB:=HB.up (Bel.hid hw2)
 clear hw2
 cases cnd
 rotate_left
 ·go_wp2_with fail
  go_ret
  have e1:R = .error 6:=HDE.out
  rw [e1]
  exact ⟨rfl,HB⟩
 go_upto_region 3 with fail
 obtain ⟨W2,rfl⟩:∃ X,X=wc:=⟨_,rfl⟩
 go_cut [7,8] from 30 to 38 (fun o f w'=>∃ qv,o = .pointer (some ⟨qv,0,none⟩)∧f = .bool ob∧At w' qv [.int .i64 vv.x0,.int .i64 vv.x1,.int .i64 vv.x2,.int .i64 vv.x3,.int .i64 vv.x4,.int .i64 vv.x5,.int .i64 vv.x6,.int .i64 vv.x7]∧Bel W2 w')
 case first =>
  have HM2:=khide (HM.out.up HB.hid)
  have HS:Hid (∀ w':World,Bel W2 w'→w'.cell? ⟨g,0,none⟩=some (.pointer (some ⟨p,0,none⟩))∧w'.cell? ⟨qp,0,none⟩=some (.slice A1 n1 c1)∧w'.cell? ⟨qp,1,none⟩=some (.slice A2 n2 c2)∧w'.cell? ⟨qp,2,none⟩=some (.slice A3 n3 c3)):=fun w' hw =>
   ⟨(hw.cell HM2.out.lt).trans HM2.out.c0,(hw.cell HP.lt).trans HP.c0,(hw.cell HP.lt).trans HP.c1,(hw.cell HP.lt).trans HP.c2⟩
  have HBX:Bel W2 W2:=Bel.refl _
  have hL2:=HP.lt;have hL3:=HM2.out.lt
  refine wp_region_held_drew (S:=fun w'=>w'.cell? ⟨g,0,none⟩=some (.pointer (some ⟨p,0,none⟩))∧w'.cell? ⟨qp,0,none⟩=some (.slice A1 n1 c1)∧w'.cell? ⟨qp,1,none⟩=some (.slice A2 n2 c2)∧w'.cell? ⟨qp,2,none⟩=some (.slice A3 n3 c3)) (by kernel_rfl) ?_ (fun hHeld=>?_)
  ·exact HS.out _ (Bel.refl _).dr
  refine tq 0 ?_
  refine tq 1 ?_
  refine tq 2 ?_
  refine tq 3 ?_
  refine tq 4 ?_
  refine wpAnyH_ready (rs:=[5,9]) (by decide +kernel) (by simp) ?_
  refine AllReadyH.cons rfl (fun K hK=>?_) (AllReadyH.cons rfl (fun K hK=>?_) (AllReadyH.nil))
  ·(go_simp;(first | (go_at_call 12;refine (CV.out _ (by with_reducible first | exact HB.dr | exact (HB.al _).dr | exact HB.up (Bel.hid HBX) | exact (HB.up (Bel.hid HBX)).al _)).mono ?_;rintro e wc ⟨rfl,hbk⟩;(first | (with_reducible replace HV0:=At.up HV0 (Bel.hid hbk)) | (with_reducible have HV0:=At.up (at_new0 _ [.int .i64 0,.int .i64 0,.int .i64 0,.int .i64 0,.int .i64 0,.int .i64 0,.int .i64 0,.int .i64 0] _) (Bel.hid hbk)) | (with_reducible have HV0:=At.up (at_new0 _ [.int .i64 0,.int .i64 0,.int .i64 0,.int .i64 0,.int .i64 0,.int .i64 0,.int .i64 0,.int .i64 0] _).dr (Bel.hid hbk)) | skip);(with_reducible first | (have HR0:=row_keep (Bel.hid hbk)) | (have HR0:=row_keepd (Bel.hid hbk)) | skip);(try (skip));replace HBX:Bel W2 wc:=(by with_reducible first | exact HBX.up (Bel.hid hbk) | exact (HBX.al _).up (Bel.hid hbk) | exact (Bel.refl W2).dr.up (Bel.hid hbk) | exact ((Bel.refl W2).al _).dr.up (Bel.hid hbk));skip) | fail);(try (go_wp2_with fail));refine hK.out _ _ ?_ (fun hHeld=>?_);(focus ((try dsimp only);exact HS.out _ (by with_reducible first | exact HBX | exact HBX.al _ | exact ((Bel.refl W2).al _).dr)));clear hK K;(try simp only [lay7,Act.put]))
   refine tq 6 ?_
   refine tq 7 ?_
   refine tq 8 ?_
   (refine sk 9 (fun K hK=>?_);go_simp;refine hK.out _ _ ?_ (fun hHeld=>?_);(focus ((try dsimp only);exact HS.out _ (by with_reducible first | exact HBX | exact HBX.al _ | exact ((Bel.refl W2).al _).dr)));clear hK K;(try simp only [lay7,Act.put]))
   (refine sk 10 (fun K hK=>?_);go_simp;refine hK.out _ _ ?_ (fun hHeld=>?_);(focus ((try dsimp only);exact HS.out _ (by with_reducible first | exact HBX | exact HBX.al _ | exact ((Bel.refl W2).al _).dr)));clear hK K;(try simp only [lay7,Act.put]))
   refine tq 11 ?_
   refine wpAnyH_done (by decide +kernel) ?_ _
   go_wp2_with fail
   go_meet
   case rel=>refine ⟨_,rfl,rfl,?_,?_⟩ <;> with_reducible first | exact at_new0 _ _ _ | exact HBX.al _ | exact at_row HR0 | exact bel_row HBX (Nat.le_refl _)
  ·(go_simp;refine hK.out _ _ ?_ (fun hHeld=>?_);(focus ((try dsimp only);exact HS.out _ (by with_reducible first | exact HBX | exact HBX.al _ | exact ((Bel.refl W2).al _).dr)));clear hK K;(try simp only [lay7,Act.put]))
   (refine sk 5 (fun K hK=>?_);go_simp;(first | (go_at_call 12;refine (CV.out _ (by with_reducible first | exact HB.dr | exact (HB.al _).dr | exact HB.up (Bel.hid HBX) | exact (HB.up (Bel.hid HBX)).al _)).mono ?_;rintro e wc ⟨rfl,hbk⟩;(first | (with_reducible replace HV0:=At.up HV0 (Bel.hid hbk)) | (with_reducible have HV0:=At.up (at_new0 _ [.int .i64 0,.int .i64 0,.int .i64 0,.int .i64 0,.int .i64 0,.int .i64 0,.int .i64 0,.int .i64 0] _) (Bel.hid hbk)) | (with_reducible have HV0:=At.up (at_new0 _ [.int .i64 0,.int .i64 0,.int .i64 0,.int .i64 0,.int .i64 0,.int .i64 0,.int .i64 0,.int .i64 0] _).dr (Bel.hid hbk)) | skip);(with_reducible first | (have HR0:=row_keep (Bel.hid hbk)) | (have HR0:=row_keepd (Bel.hid hbk)) | skip);(try (skip));replace HBX:Bel W2 wc:=(by with_reducible first | exact HBX.up (Bel.hid hbk) | exact (HBX.al _).up (Bel.hid hbk) | exact (Bel.refl W2).dr.up (Bel.hid hbk) | exact ((Bel.refl W2).al _).dr.up (Bel.hid hbk));skip) | fail);(try (go_wp2_with fail));refine hK.out _ _ ?_ (fun hHeld=>?_);(focus ((try dsimp only);exact HS.out _ (by with_reducible first | exact HBX | exact HBX.al _ | exact ((Bel.refl W2).al _).dr)));clear hK K;(try simp only [lay7,Act.put]))
   refine tq 6 ?_
   refine tq 7 ?_
   refine tq 8 ?_
   (refine sk 10 (fun K hK=>?_);refine if_plain rfl ?_;refine wp_store_row 36 (.tmp 7) (.tmp 37) rfl _ #[.int .i64 vv.x0,.int .i64 vv.x1,.int .i64 vv.x2,.int .i64 vv.x3,.int .i64 vv.x4,.int .i64 vv.x5,.int .i64 vv.x6,.int .i64 vv.x7] rfl rfl 36 _ HR0 (by kernel_rfl) rfl (by first | kernel_rfl | simp [Value.oneCell']) ?_;refine hK.out _ _ (HS.out _ (bel_row HBX (Nat.le_refl _))) (fun hHeld=>?_);clear hK K;(try simp only [lay7,Act.put]))
   refine tq 11 ?_
   refine wpAnyH_done (by decide +kernel) ?_ _
   go_wp2_with fail
   go_meet
   case rel=>refine ⟨_,rfl,rfl,?_,?_⟩ <;> with_reducible first | exact at_new0 _ _ _ | exact HBX.al _ | exact at_row HR0 | exact bel_row HBX (Nat.le_refl _)
 case rest =>
 obtain ⟨qv,rfl,rfl,HV,hw3⟩:=hcut
 replace HE:=HE.up (Bel.hid hw3)
 replace HP:=HP.up (Bel.hid hw3)
 replace HB:=HB.up (Bel.hid hw3)
 clear hw3
 cases vo with
 | none =>
   obtain rfl:false=ob:=HOB.out
   go_wp2_with fail
   go_ret
   have e1:R = .error 5:=HDE.out
   rw [e1]
   exact ⟨rfl,HB⟩
 | some v =>
   obtain rfl:true=ob:=HOB.out
   obtain rfl:v=vv:=HVV.out
   go_upto_region 6 with fail
   obtain ⟨W4,rfl⟩:∃ X,X=wc:=⟨_,rfl⟩
   go_cut [9] from 41 to 46 (fun o w'=>∃ qf sg A7 n7 c7 A8 n8 c8,o = .pointer (some ⟨qf,0,none⟩)∧At w' qf [.bool sg,.slice A7 n7 c7,.slice A8 n8 c8]∧ZA w' sg A7 n7 c7 full.num∧Nm w' A8 n8 c8 full.den∧Bel W4 w')
   case first =>
    have HS:Hid (∀ w':World,Bel W4 w'→w'.cell? ⟨qe,3,none⟩=some (.bool b)∧w'.cell? ⟨qe,4,none⟩=some (.slice A n c)∧w'.cell? ⟨qe,5,none⟩=some (.slice A' n' c')∧w'.cell? ⟨qp,0,none⟩=some (.slice A1 n1 c1)∧w'.cell? ⟨qp,1,none⟩=some (.slice A2 n2 c2)∧w'.cell? ⟨qp,2,none⟩=some (.slice A3 n3 c3)):=fun w' hw =>
     ⟨(hw.cell HE.lt).trans (at_nth HE 3 rfl),(hw.cell HE.lt).trans (at_nth HE 4 rfl),(hw.cell HE.lt).trans (at_nth HE 5 rfl),(hw.cell HP.lt).trans HP.c0,(hw.cell HP.lt).trans HP.c1,(hw.cell HP.lt).trans HP.c2⟩
    have HBX:Bel W4 W4:=Bel.refl _
    have hL1:=HE.lt;have hL2:=HP.lt
    refine wp_region_held_drew (S:=fun w'=>w'.cell? ⟨qe,3,none⟩=some (.bool b)∧w'.cell? ⟨qe,4,none⟩=some (.slice A n c)∧w'.cell? ⟨qe,5,none⟩=some (.slice A' n' c')∧w'.cell? ⟨qp,0,none⟩=some (.slice A1 n1 c1)∧w'.cell? ⟨qp,1,none⟩=some (.slice A2 n2 c2)∧w'.cell? ⟨qp,2,none⟩=some (.slice A3 n3 c3)) (by kernel_rfl) ?_ (fun hHeld=>?_)
    ·exact HS.out _ (Bel.refl _).dr
    refine tq 0 ?_
    refine tq 1 ?_
    refine tq 2 ?_
    refine tq 3 ?_
    refine wpAnyH_ready (rs:=[4,6]) (by decide +kernel) (by simp) ?_
    refine AllReadyH.cons rfl (fun K hK=>?_) (AllReadyH.cons rfl (fun K hK=>?_) (AllReadyH.nil))
    ·(go_simp;(first | (go_at_call 185;refine (CF.out _ (by with_reducible first | exact HB.dr | exact (HB.al _).dr | exact HB.up (Bel.hid HBX) | exact (HB.up (Bel.hid HBX)).al _)).mono ?_;rintro e wc ⟨A5,c5,A6,c6,rfl,hz,hd,hbk⟩;replace hbk:Bel _ wc:=hbk;(first | (with_reducible replace HV0:=At.up HV0 (Bel.hid hbk)) | (with_reducible have HV0:=At.up (at_new0 _ [.bool false,.slice none 0 0,.slice none 0 0] _) (Bel.hid hbk)) | (with_reducible have HV0:=At.up (at_new0 _ [.bool false,.slice none 0 0,.slice none 0 0] _).dr (Bel.hid hbk)) | skip);(with_reducible first | (have HR0:=row_keep (Bel.hid hbk)) | (have HR0:=row_keepd (Bel.hid hbk)) | skip);(try (have hv_0:=(HV0.all 0 _ rfl).1;have hvf_0:=(HV0.all 0 _ rfl).2;have hv_1:=(HV0.all 1 _ rfl).1;have hvf_1:=(HV0.all 1 _ rfl).2;have hv_2:=(HV0.all 2 _ rfl).1;have hvf_2:=(HV0.all 2 _ rfl).2;have hv_l:=HV0.lt));replace HBX:Bel W4 wc:=(by with_reducible first | exact HBX.up (Bel.hid hbk) | exact (HBX.al _).up (Bel.hid hbk) | exact (Bel.refl W4).dr.up (Bel.hid hbk) | exact ((Bel.refl W4).al _).dr.up (Bel.hid hbk));have HB0:=HBX) | (go_at_call 184;refine (CM.out _ _ _ _ _ (by with_reducible first | exact HB.dr | exact (HB.al _).dr | exact HB.up (Bel.hid HBX) | exact (HB.up (Bel.hid HBX)).al _) (by first | exact hz | exact hz.al _) (by first | exact hd | exact hd.al _)).mono ?_;rintro e wc ⟨A7,c7,A8,c8,rfl,hz7,hd7,hbk⟩;replace hbk:Bel _ wc:=hbk;(first | (with_reducible replace HV0:=At.up HV0 (Bel.hid hbk)) | (with_reducible have HV0:=At.up (at_new0 _ [.bool false,.slice none 0 0,.slice none 0 0] _) (Bel.hid hbk)) | (with_reducible have HV0:=At.up (at_new0 _ [.bool false,.slice none 0 0,.slice none 0 0] _).dr (Bel.hid hbk)) | skip);(with_reducible first | (have HR0:=row_keep (Bel.hid hbk)) | (have HR0:=row_keepd (Bel.hid hbk)) | skip);(try (have hv_0:=(HV0.all 0 _ rfl).1;have hvf_0:=(HV0.all 0 _ rfl).2;have hv_1:=(HV0.all 1 _ rfl).1;have hvf_1:=(HV0.all 1 _ rfl).2;have hv_2:=(HV0.all 2 _ rfl).1;have hvf_2:=(HV0.all 2 _ rfl).2;have hv_l:=HV0.lt));replace HBX:Bel W4 wc:=(by with_reducible first | exact HBX.up (Bel.hid hbk) | exact (HBX.al _).up (Bel.hid hbk) | exact (Bel.refl W4).dr.up (Bel.hid hbk) | exact ((Bel.refl W4).al _).dr.up (Bel.hid hbk));skip) | fail);(try (go_wp2_with fail));refine hK.out _ _ ?_ (fun hHeld=>?_);(focus ((try dsimp only);exact HS.out _ (by with_reducible first | exact HBX | exact HBX.al _ | exact ((Bel.refl W4).al _).dr | exact Bel.put3 HBX (Nat.le_refl _) _ _ _ | exact Bel.put3 HBX HB0.sz _ _ _)));clear hK K;(try simp only [lay7,Act.put]))
     refine wpAnyH_ready (rs:=[5,6]) (by decide +kernel) (by simp) ?_
     refine AllReadyH.cons rfl (fun K hK=>?_) (AllReadyH.cons rfl (fun K hK=>?_) (AllReadyH.nil))
     ·(go_simp;(first | (go_at_call 185;refine (CF.out _ (by with_reducible first | exact HB.dr | exact (HB.al _).dr | exact HB.up (Bel.hid HBX) | exact (HB.up (Bel.hid HBX)).al _)).mono ?_;rintro e wc ⟨A5,c5,A6,c6,rfl,hz,hd,hbk⟩;replace hbk:Bel _ wc:=hbk;(first | (with_reducible replace HV0:=At.up HV0 (Bel.hid hbk)) | (with_reducible have HV0:=At.up (at_new0 _ [.bool false,.slice none 0 0,.slice none 0 0] _) (Bel.hid hbk)) | (with_reducible have HV0:=At.up (at_new0 _ [.bool false,.slice none 0 0,.slice none 0 0] _).dr (Bel.hid hbk)) | skip);(with_reducible first | (have HR0:=row_keep (Bel.hid hbk)) | (have HR0:=row_keepd (Bel.hid hbk)) | skip);(try (have hv_0:=(HV0.all 0 _ rfl).1;have hvf_0:=(HV0.all 0 _ rfl).2;have hv_1:=(HV0.all 1 _ rfl).1;have hvf_1:=(HV0.all 1 _ rfl).2;have hv_2:=(HV0.all 2 _ rfl).1;have hvf_2:=(HV0.all 2 _ rfl).2;have hv_l:=HV0.lt));replace HBX:Bel W4 wc:=(by with_reducible first | exact HBX.up (Bel.hid hbk) | exact (HBX.al _).up (Bel.hid hbk) | exact (Bel.refl W4).dr.up (Bel.hid hbk) | exact ((Bel.refl W4).al _).dr.up (Bel.hid hbk));have HB0:=HBX) | (go_at_call 184;refine (CM.out _ _ _ _ _ (by with_reducible first | exact HB.dr | exact (HB.al _).dr | exact HB.up (Bel.hid HBX) | exact (HB.up (Bel.hid HBX)).al _) (by first | exact hz | exact hz.al _) (by first | exact hd | exact hd.al _)).mono ?_;rintro e wc ⟨A7,c7,A8,c8,rfl,hz7,hd7,hbk⟩;replace hbk:Bel _ wc:=hbk;(first | (with_reducible replace HV0:=At.up HV0 (Bel.hid hbk)) | (with_reducible have HV0:=At.up (at_new0 _ [.bool false,.slice none 0 0,.slice none 0 0] _) (Bel.hid hbk)) | (with_reducible have HV0:=At.up (at_new0 _ [.bool false,.slice none 0 0,.slice none 0 0] _).dr (Bel.hid hbk)) | skip);(with_reducible first | (have HR0:=row_keep (Bel.hid hbk)) | (have HR0:=row_keepd (Bel.hid hbk)) | skip);(try (have hv_0:=(HV0.all 0 _ rfl).1;have hvf_0:=(HV0.all 0 _ rfl).2;have hv_1:=(HV0.all 1 _ rfl).1;have hvf_1:=(HV0.all 1 _ rfl).2;have hv_2:=(HV0.all 2 _ rfl).1;have hvf_2:=(HV0.all 2 _ rfl).2;have hv_l:=HV0.lt));replace HBX:Bel W4 wc:=(by with_reducible first | exact HBX.up (Bel.hid hbk) | exact (HBX.al _).up (Bel.hid hbk) | exact (Bel.refl W4).dr.up (Bel.hid hbk) | exact ((Bel.refl W4).al _).dr.up (Bel.hid hbk));skip) | fail);(try (go_wp2_with fail));refine hK.out _ _ ?_ (fun hHeld=>?_);(focus ((try dsimp only);exact HS.out _ (by with_reducible first | exact HBX | exact HBX.al _ | exact ((Bel.refl W4).al _).dr | exact Bel.put3 HBX (Nat.le_refl _) _ _ _ | exact Bel.put3 HBX HB0.sz _ _ _)));clear hK K;(try simp only [lay7,Act.put]))
      (refine sk 6 (fun K hK=>?_);go_simp;refine hK.out _ _ ?_ (fun hHeld=>?_);(focus ((try dsimp only);exact HS.out _ (by with_reducible first | exact HBX | exact HBX.al _ | exact ((Bel.refl W4).al _).dr | exact Bel.put3 HBX (Nat.le_refl _) _ _ _ | exact Bel.put3 HBX HB0.sz _ _ _)));clear hK K;(try simp only [lay7,Act.put]))
      (refine sk 7 (fun K hK=>?_);go_simp;refine hK.out _ _ ?_ (fun hHeld=>?_);(focus ((try dsimp only);exact HS.out _ (by with_reducible first | exact HBX | exact HBX.al _ | exact ((Bel.refl W4).al _).dr | exact Bel.put3 HBX (Nat.le_refl _) _ _ _ | exact Bel.put3 HBX HB0.sz _ _ _)));clear hK K;(try simp only [lay7,Act.put]))
      refine wpAnyH_done (by decide +kernel) ?_ _
      go_wp2_with fail
      go_meet
      case rel=>refine ⟨_,decide (full.num < 0),A7,dl full.num.natAbs,c7,A8,dl full.den,c8,rfl,?_,?_,?_,?_⟩ <;> with_reducible first | exact at_new0 _ _ _ | exact HV0.put3 _ _ _ | exact hz7.al _ | exact hd7.al _ | exact HBX.al _ | exact hz7.put3 HV0 | exact hd7.put3 HV0 now3 | exact Bel.put3 HBX (Nat.le_refl _) _ _ _ | exact Bel.put3 HBX HB0.sz _ _ _
     ·(go_simp;refine hK.out _ _ ?_ (fun hHeld=>?_);(focus ((try dsimp only);exact HS.out _ (by with_reducible first | exact HBX | exact HBX.al _ | exact ((Bel.refl W4).al _).dr | exact Bel.put3 HBX (Nat.le_refl _) _ _ _ | exact Bel.put3 HBX HB0.sz _ _ _)));clear hK K;(try simp only [lay7,Act.put]))
      (refine sk 5 (fun K hK=>?_);go_simp;(first | (go_at_call 185;refine (CF.out _ (by with_reducible first | exact HB.dr | exact (HB.al _).dr | exact HB.up (Bel.hid HBX) | exact (HB.up (Bel.hid HBX)).al _)).mono ?_;rintro e wc ⟨A5,c5,A6,c6,rfl,hz,hd,hbk⟩;replace hbk:Bel _ wc:=hbk;(first | (with_reducible replace HV0:=At.up HV0 (Bel.hid hbk)) | (with_reducible have HV0:=At.up (at_new0 _ [.bool false,.slice none 0 0,.slice none 0 0] _) (Bel.hid hbk)) | (with_reducible have HV0:=At.up (at_new0 _ [.bool false,.slice none 0 0,.slice none 0 0] _).dr (Bel.hid hbk)) | skip);(with_reducible first | (have HR0:=row_keep (Bel.hid hbk)) | (have HR0:=row_keepd (Bel.hid hbk)) | skip);(try (have hv_0:=(HV0.all 0 _ rfl).1;have hvf_0:=(HV0.all 0 _ rfl).2;have hv_1:=(HV0.all 1 _ rfl).1;have hvf_1:=(HV0.all 1 _ rfl).2;have hv_2:=(HV0.all 2 _ rfl).1;have hvf_2:=(HV0.all 2 _ rfl).2;have hv_l:=HV0.lt));replace HBX:Bel W4 wc:=(by with_reducible first | exact HBX.up (Bel.hid hbk) | exact (HBX.al _).up (Bel.hid hbk) | exact (Bel.refl W4).dr.up (Bel.hid hbk) | exact ((Bel.refl W4).al _).dr.up (Bel.hid hbk));have HB0:=HBX) | (go_at_call 184;refine (CM.out _ _ _ _ _ (by with_reducible first | exact HB.dr | exact (HB.al _).dr | exact HB.up (Bel.hid HBX) | exact (HB.up (Bel.hid HBX)).al _) (by first | exact hz | exact hz.al _) (by first | exact hd | exact hd.al _)).mono ?_;rintro e wc ⟨A7,c7,A8,c8,rfl,hz7,hd7,hbk⟩;replace hbk:Bel _ wc:=hbk;(first | (with_reducible replace HV0:=At.up HV0 (Bel.hid hbk)) | (with_reducible have HV0:=At.up (at_new0 _ [.bool false,.slice none 0 0,.slice none 0 0] _) (Bel.hid hbk)) | (with_reducible have HV0:=At.up (at_new0 _ [.bool false,.slice none 0 0,.slice none 0 0] _).dr (Bel.hid hbk)) | skip);(with_reducible first | (have HR0:=row_keep (Bel.hid hbk)) | (have HR0:=row_keepd (Bel.hid hbk)) | skip);(try (have hv_0:=(HV0.all 0 _ rfl).1;have hvf_0:=(HV0.all 0 _ rfl).2;have hv_1:=(HV0.all 1 _ rfl).1;have hvf_1:=(HV0.all 1 _ rfl).2;have hv_2:=(HV0.all 2 _ rfl).1;have hvf_2:=(HV0.all 2 _ rfl).2;have hv_l:=HV0.lt));replace HBX:Bel W4 wc:=(by with_reducible first | exact HBX.up (Bel.hid hbk) | exact (HBX.al _).up (Bel.hid hbk) | exact (Bel.refl W4).dr.up (Bel.hid hbk) | exact ((Bel.refl W4).al _).dr.up (Bel.hid hbk));skip) | fail);(try (go_wp2_with fail));refine hK.out _ _ ?_ (fun hHeld=>?_);(focus ((try dsimp only);exact HS.out _ (by with_reducible first | exact HBX | exact HBX.al _ | exact ((Bel.refl W4).al _).dr | exact Bel.put3 HBX (Nat.le_refl _) _ _ _ | exact Bel.put3 HBX HB0.sz _ _ _)));clear hK K;(try simp only [lay7,Act.put]))
      (refine sk 7 (fun K hK=>?_);go_simp;refine hK.out _ _ ?_ (fun hHeld=>?_);(focus ((try dsimp only);exact HS.out _ (by with_reducible first | exact HBX | exact HBX.al _ | exact ((Bel.refl W4).al _).dr | exact Bel.put3 HBX (Nat.le_refl _) _ _ _ | exact Bel.put3 HBX HB0.sz _ _ _)));clear hK K;(try simp only [lay7,Act.put]))
      refine wpAnyH_done (by decide +kernel) ?_ _
      go_wp2_with fail
      go_meet
      case rel=>refine ⟨_,decide (full.num < 0),A7,dl full.num.natAbs,c7,A8,dl full.den,c8,rfl,?_,?_,?_,?_⟩ <;> with_reducible first | exact at_new0 _ _ _ | exact HV0.put3 _ _ _ | exact hz7.al _ | exact hd7.al _ | exact HBX.al _ | exact hz7.put3 HV0 | exact hd7.put3 HV0 now3 | exact Bel.put3 HBX (Nat.le_refl _) _ _ _ | exact Bel.put3 HBX HB0.sz _ _ _
    ·(go_simp;refine hK.out _ _ ?_ (fun hHeld=>?_);(focus ((try dsimp only);exact HS.out _ (by with_reducible first | exact HBX | exact HBX.al _ | exact ((Bel.refl W4).al _).dr | exact Bel.put3 HBX (Nat.le_refl _) _ _ _ | exact Bel.put3 HBX HB0.sz _ _ _)));clear hK K;(try simp only [lay7,Act.put]))
     (refine sk 4 (fun K hK=>?_);go_simp;(first | (go_at_call 185;refine (CF.out _ (by with_reducible first | exact HB.dr | exact (HB.al _).dr | exact HB.up (Bel.hid HBX) | exact (HB.up (Bel.hid HBX)).al _)).mono ?_;rintro e wc ⟨A5,c5,A6,c6,rfl,hz,hd,hbk⟩;replace hbk:Bel _ wc:=hbk;(first | (with_reducible replace HV0:=At.up HV0 (Bel.hid hbk)) | (with_reducible have HV0:=At.up (at_new0 _ [.bool false,.slice none 0 0,.slice none 0 0] _) (Bel.hid hbk)) | (with_reducible have HV0:=At.up (at_new0 _ [.bool false,.slice none 0 0,.slice none 0 0] _).dr (Bel.hid hbk)) | skip);(with_reducible first | (have HR0:=row_keep (Bel.hid hbk)) | (have HR0:=row_keepd (Bel.hid hbk)) | skip);(try (have hv_0:=(HV0.all 0 _ rfl).1;have hvf_0:=(HV0.all 0 _ rfl).2;have hv_1:=(HV0.all 1 _ rfl).1;have hvf_1:=(HV0.all 1 _ rfl).2;have hv_2:=(HV0.all 2 _ rfl).1;have hvf_2:=(HV0.all 2 _ rfl).2;have hv_l:=HV0.lt));replace HBX:Bel W4 wc:=(by with_reducible first | exact HBX.up (Bel.hid hbk) | exact (HBX.al _).up (Bel.hid hbk) | exact (Bel.refl W4).dr.up (Bel.hid hbk) | exact ((Bel.refl W4).al _).dr.up (Bel.hid hbk));have HB0:=HBX) | (go_at_call 184;refine (CM.out _ _ _ _ _ (by with_reducible first | exact HB.dr | exact (HB.al _).dr | exact HB.up (Bel.hid HBX) | exact (HB.up (Bel.hid HBX)).al _) (by first | exact hz | exact hz.al _) (by first | exact hd | exact hd.al _)).mono ?_;rintro e wc ⟨A7,c7,A8,c8,rfl,hz7,hd7,hbk⟩;replace hbk:Bel _ wc:=hbk;(first | (with_reducible replace HV0:=At.up HV0 (Bel.hid hbk)) | (with_reducible have HV0:=At.up (at_new0 _ [.bool false,.slice none 0 0,.slice none 0 0] _) (Bel.hid hbk)) | (with_reducible have HV0:=At.up (at_new0 _ [.bool false,.slice none 0 0,.slice none 0 0] _).dr (Bel.hid hbk)) | skip);(with_reducible first | (have HR0:=row_keep (Bel.hid hbk)) | (have HR0:=row_keepd (Bel.hid hbk)) | skip);(try (have hv_0:=(HV0.all 0 _ rfl).1;have hvf_0:=(HV0.all 0 _ rfl).2;have hv_1:=(HV0.all 1 _ rfl).1;have hvf_1:=(HV0.all 1 _ rfl).2;have hv_2:=(HV0.all 2 _ rfl).1;have hvf_2:=(HV0.all 2 _ rfl).2;have hv_l:=HV0.lt));replace HBX:Bel W4 wc:=(by with_reducible first | exact HBX.up (Bel.hid hbk) | exact (HBX.al _).up (Bel.hid hbk) | exact (Bel.refl W4).dr.up (Bel.hid hbk) | exact ((Bel.refl W4).al _).dr.up (Bel.hid hbk));skip) | fail);(try (go_wp2_with fail));refine hK.out _ _ ?_ (fun hHeld=>?_);(focus ((try dsimp only);exact HS.out _ (by with_reducible first | exact HBX | exact HBX.al _ | exact ((Bel.refl W4).al _).dr | exact Bel.put3 HBX (Nat.le_refl _) _ _ _ | exact Bel.put3 HBX HB0.sz _ _ _)));clear hK K;(try simp only [lay7,Act.put]))
     (refine sk 5 (fun K hK=>?_);go_simp;(first | (go_at_call 185;refine (CF.out _ (by with_reducible first | exact HB.dr | exact (HB.al _).dr | exact HB.up (Bel.hid HBX) | exact (HB.up (Bel.hid HBX)).al _)).mono ?_;rintro e wc ⟨A5,c5,A6,c6,rfl,hz,hd,hbk⟩;replace hbk:Bel _ wc:=hbk;(first | (with_reducible replace HV0:=At.up HV0 (Bel.hid hbk)) | (with_reducible have HV0:=At.up (at_new0 _ [.bool false,.slice none 0 0,.slice none 0 0] _) (Bel.hid hbk)) | (with_reducible have HV0:=At.up (at_new0 _ [.bool false,.slice none 0 0,.slice none 0 0] _).dr (Bel.hid hbk)) | skip);(with_reducible first | (have HR0:=row_keep (Bel.hid hbk)) | (have HR0:=row_keepd (Bel.hid hbk)) | skip);(try (have hv_0:=(HV0.all 0 _ rfl).1;have hvf_0:=(HV0.all 0 _ rfl).2;have hv_1:=(HV0.all 1 _ rfl).1;have hvf_1:=(HV0.all 1 _ rfl).2;have hv_2:=(HV0.all 2 _ rfl).1;have hvf_2:=(HV0.all 2 _ rfl).2;have hv_l:=HV0.lt));replace HBX:Bel W4 wc:=(by with_reducible first | exact HBX.up (Bel.hid hbk) | exact (HBX.al _).up (Bel.hid hbk) | exact (Bel.refl W4).dr.up (Bel.hid hbk) | exact ((Bel.refl W4).al _).dr.up (Bel.hid hbk));have HB0:=HBX) | (go_at_call 184;refine (CM.out _ _ _ _ _ (by with_reducible first | exact HB.dr | exact (HB.al _).dr | exact HB.up (Bel.hid HBX) | exact (HB.up (Bel.hid HBX)).al _) (by first | exact hz | exact hz.al _) (by first | exact hd | exact hd.al _)).mono ?_;rintro e wc ⟨A7,c7,A8,c8,rfl,hz7,hd7,hbk⟩;replace hbk:Bel _ wc:=hbk;(first | (with_reducible replace HV0:=At.up HV0 (Bel.hid hbk)) | (with_reducible have HV0:=At.up (at_new0 _ [.bool false,.slice none 0 0,.slice none 0 0] _) (Bel.hid hbk)) | (with_reducible have HV0:=At.up (at_new0 _ [.bool false,.slice none 0 0,.slice none 0 0] _).dr (Bel.hid hbk)) | skip);(with_reducible first | (have HR0:=row_keep (Bel.hid hbk)) | (have HR0:=row_keepd (Bel.hid hbk)) | skip);(try (have hv_0:=(HV0.all 0 _ rfl).1;have hvf_0:=(HV0.all 0 _ rfl).2;have hv_1:=(HV0.all 1 _ rfl).1;have hvf_1:=(HV0.all 1 _ rfl).2;have hv_2:=(HV0.all 2 _ rfl).1;have hvf_2:=(HV0.all 2 _ rfl).2;have hv_l:=HV0.lt));replace HBX:Bel W4 wc:=(by with_reducible first | exact HBX.up (Bel.hid hbk) | exact (HBX.al _).up (Bel.hid hbk) | exact (Bel.refl W4).dr.up (Bel.hid hbk) | exact ((Bel.refl W4).al _).dr.up (Bel.hid hbk));skip) | fail);(try (go_wp2_with fail));refine hK.out _ _ ?_ (fun hHeld=>?_);(focus ((try dsimp only);exact HS.out _ (by with_reducible first | exact HBX | exact HBX.al _ | exact ((Bel.refl W4).al _).dr | exact Bel.put3 HBX (Nat.le_refl _) _ _ _ | exact Bel.put3 HBX HB0.sz _ _ _)));clear hK K;(try simp only [lay7,Act.put]))
     (refine sk 7 (fun K hK=>?_);go_simp;refine hK.out _ _ ?_ (fun hHeld=>?_);(focus ((try dsimp only);exact HS.out _ (by with_reducible first | exact HBX | exact HBX.al _ | exact ((Bel.refl W4).al _).dr | exact Bel.put3 HBX (Nat.le_refl _) _ _ _ | exact Bel.put3 HBX HB0.sz _ _ _)));clear hK K;(try simp only [lay7,Act.put]))
     refine wpAnyH_done (by decide +kernel) ?_ _
     go_wp2_with fail
     go_meet
     case rel=>refine ⟨_,decide (full.num < 0),A7,dl full.num.natAbs,c7,A8,dl full.den,c8,rfl,?_,?_,?_,?_⟩ <;> with_reducible first | exact at_new0 _ _ _ | exact HV0.put3 _ _ _ | exact hz7.al _ | exact hd7.al _ | exact HBX.al _ | exact hz7.put3 HV0 | exact hd7.put3 HV0 now3 | exact Bel.put3 HBX (Nat.le_refl _) _ _ _ | exact Bel.put3 HBX HB0.sz _ _ _
   case rest =>
   obtain ⟨qf,sg,A7,n7,c7,A8,n8,c8,rfl,HF,hz7,hd7,hw6⟩:=hcut
   replace HE:=HE.up (Bel.hid hw6)
   replace HV:=HV.up (Bel.hid hw6)
   replace HB:=HB.up (Bel.hid hw6)
   clear hw6 HP
   have hf_0:=HF.c0;have hf_1:=HF.c1;have hf_2:=HF.c2;have hf_l:=HF.lt
   cases bl
   rotate_left
   ·go_wp2_with (first | (go_at_call 186;refine (CL.out _ _ _ _ _ _ _ _ hz7 hd7).mono ?_;rintro e w5 ⟨rfl,hb5⟩) | fail)
    go_ret
    have e1:R = .error 11:=HDE.out
    rw [e1]
    exact ⟨rfl,HB.up (Bel.hid hb5)⟩
   go_wp2_with (first | (go_at_call 186;refine (CL.out _ _ _ _ _ _ _ _ hz7 hd7).mono ?_;rintro e w5 ⟨rfl,hb5⟩;replace HE:=HE.up (Bel.hid hb5);replace HV:=HV.up (Bel.hid hb5);replace HF:=HF.up (Bel.hid hb5);replace HB:=HB.up (Bel.hid hb5);replace hz7:=hz7.up (Bel.hid hb5);replace hd7:=hd7.up (Bel.hid hb5);clear hf_0 hf_1 hf_2 hf_l hb5;have hf_0:=HF.c0;have hf_1:=HF.c1;have hf_2:=HF.c2;have hf_l:=HF.lt;obtain ⟨a0,a1,a2,a3,a4,a5,a6,a7⟩:=HV.v8;have al:=HV.lt;have e0:=HE.c0;have e1:=HE.c1;have e2:=HE.c2;have e3:=at_nth HE 3 rfl;have e4:=at_nth HE 4 rfl;have e5:=at_nth HE 5 rfl;have e6:=at_nth HE 6 rfl;have e7:=at_nth HE 7 rfl;have e8:=at_nth HE 8 rfl;have e9:=at_nth HE 9 rfl;have el:=HE.lt) | (go_at_call 122;refine (CP.out _ _ _ _ _ _ _ _ v HB hz7 hd7 (by trivial)).mono ?_;rintro e w6 ⟨⟨v',rfl⟩,hst⟩) | fail)
   go_ret
   have e1:R = .ok { T with ents:=T.ents ++ [(s,⟨id,ba,fac,off,has,v,full⟩)] }:=HDE.out
   rw [e1]
   exact ⟨rfl,hst.pre HB.hid⟩
end
end Go.Proofs.YtfflmmbhpchloaaGreatDoor
end
