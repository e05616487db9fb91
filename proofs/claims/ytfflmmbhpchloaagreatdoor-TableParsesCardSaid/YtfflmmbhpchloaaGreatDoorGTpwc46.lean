/- Each theorem here says its own conditions. -/
import Derived.Test.YtfflmmbhpchloaaGreatDoorGTpwc45
set_option maxRecDepth 100000
set_option maxHeartbeats 16000000
section
open Go.RowKit
namespace Go.Proofs.YtfflmmbhpchloaaGreatDoor
section
variable {w:World} {q:QL}
theorem partOf11_any {v1 v2 v3:Value} (hq:Q1 w v1 v2 v3 q) (hl:LenQ q):Calls Tryz.prog 48 #[.agg #[v1,v2,v3]] w (PartO w (toP q)):=by
 obtain ⟨A1,c1,A2,c2,A3,c3,rfl,rfl,rfl,b1,b2,b3,b4,r1,r2,r3,-,-⟩:=hq.open_
 obtain ⟨l1,l2,ws⟩:=q
 obtain ⟨h1,h2⟩:=hl
 have C1:Hid (∀ W,Bel w W→Calls Tryz.prog 83 #[.slice A1 l1.length c1] W (AtomsOR W l1)):=fun W hb=>atomsOf11_any (r1.up hb.hid) rfl h1
 have C2:Hid (∀ W,Bel w W→Calls Tryz.prog 83 #[.slice A2 l2.length c2] W (AtomsOR W l2)):=fun W hb=>atomsOf11_any (r2.up hb.hid) rfl h2
 have CT:Hid (∀ W,Bel w W→Calls Tryz.prog 43 #[.agg #[.slice A3 ws.length c3]] W (TextR W (nuT (val W32 ws)))):=fun W hb=>text_r (r3.up hb.hid) (nuT_data _)
 show Calls Tryz.prog 48 #[.agg #[.slice A1 l1.length c1,.slice A2 l2.length c2,.slice A3 ws.length c3]] w (PartO w (l1,l2,nuT (val W32 ws)))
 obtain ⟨t,ht⟩:∃ t,nuT (val W32 ws)=t:=⟨_,rfl⟩
 rw [ht] at CT ⊢
 obtain ⟨n1,hn1⟩:∃ n,l1.length=n:=⟨_,rfl⟩
 obtain ⟨n2,hn2⟩:∃ n,l2.length=n:=⟨_,rfl⟩
 obtain ⟨n3,hn3⟩:∃ n,ws.length=n:=⟨_,rfl⟩
 unfold PartO
 unfold AtomsOR at C1 C2
 dsimp only
 rw [hn1] at C1 ⊢
 rw [hn2] at C2 ⊢
 rw [hn3] at CT ⊢
 clear b1 b2 b3 b4 r1 r2 r3 hq h1 h2 ht hn1 hn2 hn3
 obtain ⟨W1,hW1⟩:∃ X,X=(w.alloc (.cells #[.slice A1 n1 c1,.slice A2 n2 c2,.slice A3 n3 c3] 44)).alloc (.cells #[.slice none 0 0,.slice none 0 0,.string ⟨#[]⟩] 117):=⟨_,rfl⟩
 have HP:At W1 w.heap.size [.slice A1 n1 c1,.slice A2 n2 c2,.slice A3 n3 c3]:=by rw [hW1];exact (at_new0 _ _ _).al _
 have HR:At W1 (w.heap.size + 1) [.slice none 0 0,.slice none 0 0,.string ⟨#[]⟩]:=by rw [hW1];exact at_new1 _ _ _ _
 have HB:Bel w W1:=by rw [hW1];exact ((Bel.refl w).al _).al _
 have HW:=khide hW1
 clear hW1
 have hrp:w.heap.size + 1 ≠ w.heap.size:=by omega
 go_enter Tryz.func48,Tryz.ntmps48
 go_upto_region 1 with fail
 rw [← HW.out]
 clear HW
 replace HP:=HP.dr;replace HR:=HR.dr;replace HB:=HB.dr
 refine wp_region_held_drew (S:=fun w'=>w'.cell? ⟨w.heap.size,0,none⟩=some (.slice A1 n1 c1)∧w'.cell? ⟨w.heap.size,1,none⟩=some (.slice A2 n2 c2)∧w'.cell? ⟨w.heap.size,2,none⟩=some (.slice A3 n3 c3)) (by kernel_rfl) ?_ (fun hHeld=>?_)
 ·exact ⟨HP.c0,HP.c1,HP.c2⟩
 have hr_f0:=HR.f0;have hr_f1:=HR.f1;have hr_f2:=HR.f2;have hr_0:=HR.c0;have hr_1:=HR.c1;have hr_2:=HR.c2;have hr_l:=HR.lt
 generalize W1.drew=Wd at *
 have hrl:=HR.lt
 have hwb:=HB.size
 obtain ⟨bs,hbs⟩:∃ b,b=Wd.heap.size:=⟨_,rfl⟩
 rw [← hbs] at hrl hwb
 have HBS:=khide hbs
 clear hbs
 refine tq 0 ?_
 refine tq 1 ?_
 refine tq 3 ?_
 refine tq 4 ?_
 refine tq 6 ?_
 refine tq 7 ?_
 (refine sk 2 (fun K hK=>?_);go_simp;(go_at_call 83;(with_reducible refine (C1.out _ HB).mono ?_);rintro e w3 ⟨B1,d1,rfl,-,-,HO1,hb⟩;replace HP:=HP.up (Bel.hid hb);replace HR:=HR.up (Bel.hid hb);replace HB:=HB.up (Bel.hid hb);replace HO1:=khide (own_base HO1.out (show bs≤_ from HBS.out ▸ Nat.le_refl _));have HZ:=khide (show bs≤w3.heap.size from HBS.out ▸ hb.size);clear hr_f0 hr_f1 hr_f2 hr_0 hr_1 hr_2 hr_l;have hr_f0:=HR.f0;have hr_f1:=HR.f1;have hr_f2:=HR.f2;have hr_0:=HR.c0;have hr_1:=HR.c1;have hr_2:=HR.c2;have hr_l:=HR.lt);(try (go_wp2_with fail));refine hK.out _ _ ?_ (fun hHeld=>?_);(focus ((try dsimp only);(first | (with_reducible exact ⟨HP.c0,HP.c1,HP.c2⟩) | exact KS.out _ _ _)));clear hK K;(try simp only [lay7,Act.put]))
 (refine sk 5 (fun K hK=>?_);go_simp;(go_at_call 83;(with_reducible refine (C2.out _ HB).mono ?_);rintro e w4 ⟨B2,d2,rfl,-,-,HO2,hb⟩;replace HP:=HP.up (Bel.hid hb);replace HR:=HR.up (Bel.hid hb);replace HB:=HB.up (Bel.hid hb);replace HO1:=khide (own_up HO1.out (Bel.hid hb));replace HO2:=khide (own_base HO2.out HZ.out);replace HZ:=khide (Nat.le_trans HZ.out hb.size);clear hr_f0 hr_f1 hr_f2 hr_0 hr_1 hr_2 hr_l;have hr_f0:=HR.f0;have hr_f1:=HR.f1;have hr_f2:=HR.f2;have hr_0:=HR.c0;have hr_1:=HR.c1;have hr_2:=HR.c2;have hr_l:=HR.lt);(try (go_wp2_with fail));refine hK.out _ _ ?_ (fun hHeld=>?_);(focus ((try dsimp only);(first | (with_reducible exact ⟨HP.c0,HP.c1,HP.c2⟩) | exact KS.out _ _ _)));clear hK K;(try simp only [lay7,Act.put]))
 (refine sk 8 (fun K hK=>?_);go_simp;(go_at_call 43;(with_reducible refine (CT.out _ HB).mono ?_);rintro e w5 ⟨rfl,hb⟩;replace HP:=HP.up hb;replace HR:=HR.up hb;replace HB:=HB.up hb;replace HO1:=khide (own_up HO1.out hb);replace HO2:=khide (own_up HO2.out hb);clear hr_f0 hr_f1 hr_f2 hr_0 hr_1 hr_2 hr_l;have hr_f0:=HR.f0;have hr_f1:=HR.f1;have hr_f2:=HR.f2;have hr_0:=HR.c0;have hr_1:=HR.c1;have hr_2:=HR.c2;have hr_l:=HR.lt;have KS:Hid (∀ x y z:Value,(((w5.setCell ⟨w.heap.size + 1,0,none⟩ x).setCell ⟨w.heap.size + 1,1,none⟩ y).setCell ⟨w.heap.size + 1,2,none⟩ z).cell? ⟨w.heap.size,0,none⟩=some (.slice A1 n1 c1)∧(((w5.setCell ⟨w.heap.size + 1,0,none⟩ x).setCell ⟨w.heap.size + 1,1,none⟩ y).setCell ⟨w.heap.size + 1,2,none⟩ z).cell? ⟨w.heap.size,1,none⟩=some (.slice A2 n2 c2)∧(((w5.setCell ⟨w.heap.size + 1,0,none⟩ x).setCell ⟨w.heap.size + 1,1,none⟩ y).setCell ⟨w.heap.size + 1,2,none⟩ z).cell? ⟨w.heap.size,2,none⟩=some (.slice A3 n3 c3)):=(fun x y z=>by have h5:=((HP.far hrp (i:=0) x).far hrp (i:=1) y).far hrp (i:=2) z;exact ⟨h5.c0,h5.c1,h5.c2⟩));(try (go_wp2_with fail));refine hK.out _ _ ?_ (fun hHeld=>?_);(focus ((try dsimp only);(first | (with_reducible exact ⟨HP.c0,HP.c1,HP.c2⟩) | exact KS.out _ _ _)));clear hK K;(try simp only [lay7,Act.put]))
 refine tq 9 ?_
 (refine sk 10 (fun K hK=>?_);go_simp;refine hK.out _ _ ?_ (fun hHeld=>?_);(focus ((try dsimp only);(first | (with_reducible exact ⟨HP.c0,HP.c1,HP.c2⟩) | exact KS.out _ _ _)));clear hK K;(try simp only [lay7,Act.put]))
 refine wpAnyH_done (by decide +kernel) ?_ _
 go_wp2_with fail
 have hs:w.heap.size≤w.heap.size + 1:=Nat.le_succ _
 refine bodyPost_ret (v:=.agg #[.slice B1 n1 d1,.slice B2 n2 d2,.string t]) (by simp [results,Tryz.results48,go_sem,hr_0,hr_1,hr_2,hr_l]) rfl ?_
 exact ⟨B1,d1,B2,d2,rfl,own_base (ownsRow_setCell_below (ownsRow_setCell_below (ownsRow_setCell_below HO1.out hrl _) hrl _) hrl _) hwb,own_base (ownsRow_setCell_below (ownsRow_setCell_below (ownsRow_setCell_below HO2.out hrl _) hrl _) hrl _) hwb,kbelow3 HB hs _ _ _⟩
end
section
theorem partsOf11_any {A:Option Addr} {n c:Nat} {qs:List QL} {w:World} (h:Qs w A qs) (hn:n=qs.length) (hl:n≤1000) (hf:∀ q ∈ qs,LenQ q):Calls Tryz.prog 23 #[.agg #[.slice A n c]] w (PartsO w (qs.map toP)):=by
 obtain ⟨W1,hW1⟩:∃ X,X=w.alloc (.cells #[.slice A n c] 32):=⟨_,rfl⟩
 have HU:At W1 w.heap.size [.slice A n c]:=by rw [hW1];exact at_new0 _ _ _
 have HB:Bel w W1:=by rw [hW1];exact (Bel.refl w).al _
 have HN:=khide hn
 have HF:=khide hf
 have HL:Hid ((qs.map toP).length=n):=by unfold Hid;rw [List.length_map];exact hn.symm
 have HW:=khide hW1
 obtain ⟨i0,hi,hz0,hz1,hz2⟩:=info_parts infoPartR
 have J0:=khide hi;have Y0:=khide hz0;have Y1:=khide hz1;have Y2:=khide hz2
 clear hi hz0 hz1 hz2 hW1 hn hf
 obtain ⟨ps,hps⟩:∃ ps,qs.map toP=ps:=⟨_,rfl⟩
 have HPS:=khide hps
 rw [hps] at HL ⊢
 clear hps
 replace h:=h.up HB.hid
 go_enter Tryz.func23,Tryz.ntmps23
 go_upto_region 1 with fail
 rw [← HW.out]
 go_wp2_with fail
 go_loopw [3,4] (fun rv iv wr=>∃ (k cp:Nat) (R:Option Addr) (cs:List Value),k≤n∧iv = .int .i64 (k:Int)∧rv = .slice R k cp∧Hid (OwnP W1.heap.size wr (.slice R k cp) (ps.take k) cs)∧Hid (Below W1.heap.size W1 wr)) (fun _ iv _=>n - (intOf iv).toNat)
 case atStart=>exact ⟨0,0,none,[],Nat.zero_le _,rfl,rfl,OwnP.nil,Below.refl _ _⟩
 case round =>
  obtain ⟨k,cp,R,cs,hk,rfl,rfl,HO,HBr⟩:=hrel
  have HUr:=HU.up HBr
  have hu_0:=HUr.c0;have hu_l:=HUr.lt
  by_cases hlt:k < n
  ·obtain ⟨q,hq⟩:∃ q,qs[k]? = some q:=⟨qs[k]'(by rw [← HN.out];exact hlt),List.getElem?_eq_getElem _⟩
   obtain ⟨ad,v1,v2,v3,rfl,had,a0,a1,a2,HQ⟩:=(h.up HBr).at_ hq
   obtain ⟨p,hp⟩:∃ p,toP q=p:=⟨_,rfl⟩
   have HPK:Hid (ps.take (k + 1)=ps.take k ++ [p]):=by
    have hx:k < ps.length:=by rw [HL.out];exact hlt
    have e:ps[k]? = some p:=by rw [← HPS.out,List.getElem?_map,hq,← hp];rfl
    unfold Hid
    rw [List.take_succ_eq_append_getElem hx]
    rw [List.getElem?_eq_getElem hx] at e
    injection e with e
    rw [e]
   have HTL:Hid ((ps.take k).length=k):=by unfold Hid;rw [List.length_take,HL.out];omega
   have CP:Hid (Calls Tryz.prog 48 #[.agg #[v1,v2,v3]] wr (PartO wr p)):=hp ▸ partOf11_any HQ (HF.out q (List.mem_of_getElem? hq))
   obtain ⟨A1,c1,A2,c2,A3,c3,rfl,rfl,rfl,-⟩:=HQ.open_
   obtain ⟨l1,l2,t⟩:=p
   have HBS:Hid (W1.heap.size≤wr.heap.size):=HBr.out.size
   have k0:(0:Int)≤(k:Int):=by omega
   have k1:(k:Int) < (n:Int):=by omega
   have HOW:Hid (wr.ownsRow W1.heap.size 117 3 (.slice R k cp) k cs):=by
    have h9:=HO.out.own
    rw [HTL.out] at h9
    exact h9
   clear hq hp HQ
   unfold PartO at CP
   dsimp only at CP
   go_wp2_with (first | (go_at_call 48;(with_reducible refine (CP.out).mono ?_);rintro e w2 ⟨B1,d1,B2,d2,rfl,HO1,HO2,hb2⟩) | (at_builtin;go_must (refine wpList_append_own _ rfl (.tmp 12) (.tmp 19) 67 rfl W1.heap.size 117 i0 (.agg #[.slice none 0 0,.slice none 0 0,.string ByteArray.empty]) 3 64 Tryz.underlying67 J0.out Y0.out Y1.out Y2.out rfl (by decide) _ _ _ rfl ((own_up HOW.out hb2.hid).alloc _) ⟨w2.heap.size,0,none⟩ 1 1 [.slice B1 l1.length d1,.slice B2 l2.length d2,.string t] rfl rfl (at_news (at_new0 _ _ _)) cellP_one (by simp only [maxLen];omega) (by omega) (Nat.le_trans HBS.out (Nat.le_trans hb2.size (by simp))) ?_);intro v1 w3 ho1 hg1 hn1;clear hn1) | fail)
   have hg2:(w2.alloc (.cells #[.slice B1 l1.length d1,.slice B2 l2.length d2,.string t] 117)).grownBy w3 (Value.slice R k cp).ownBlock:=hg1
   have HO2u:=own_up HOW.out hb2.hid
   have HB2:Hid (Below W1.heap.size W1 w2):=HBr.out.trans (hb2.mono HBS.out)
   have HB3:Hid (Below W1.heap.size W1 w3):=(HB2.out.alloc HB2.out.size _).grown hg2 (HB2.out.alloc HB2.out.size _).size (fun g' e=>(HO2u.lt g' e).1)
   obtain ⟨R2,cp2,rfl,_⟩:=own_slice ho1
   have HA:=fun o=>(HO.out.up hb2.hid).up (w':=w2.alloc o) ((Below.refl _ _).alloc (Nat.le_refl _) o)
   have HM:=OwnP.more (p:=(l1,l2,t)) (HA _) (by rw [HTL.out];exact ho1) hg2 ((own_base HO1.out HBS.out).alloc _) ((own_base HO2.out HBS.out).alloc _)
   have HO3:=khide HM
   clear hg1 hg2 ho1 HO2u HA HM
   go_roundw
   case rel =>
    refine ⟨k + 1,cp2,R2,cs ++ [.slice B1 l1.length d1,.slice B2 l2.length d2,.string t],by omega,by go_num,rfl,?_,HB3⟩
    rw [HPK.out]
    exact HO3
   case measure=>simp [intOf];omega
  ·obtain rfl:k=n:=by omega
   go_wp2
   go_ret
   have h3:=HO.out
   rw [List.take_of_length_le (by rw [HL.out];exact Nat.le_refl _)] at h3
   exact ⟨R,cp,k,HL.out.symm,rfl,h3.rp HL.out.symm,HB.up (HBr.out.mono (Nat.le_refl _) |> khide)⟩
end
theorem sameAtoms_any11 {A B:Option Addr} {n m c d:Nat} {l l':List AL} {w:World} (h:Cs w A (cellsA l)) (h':Cs w B (cellsA l')) (hn:n=l.length) (hm:m=l'.length) (hl:n≤1000000) (hl':m≤1000000) :
 Calls Tryz.prog 47 #[.slice A n c,.slice B m d] w (BoolQ w (sameA l l')):=by
 by_cases hnm:n=m
 ·subst hnm
  have HN:=khide hn
  have HM:=khide hm
  clear hn hm
  go_enter Tryz.func47,Tryz.ntmps47
  go_wp2
  go_loopw [5] (fun iv wr=>∃ k q:Nat,k≤n∧iv = .int .i64 (k:Int)∧Hid (wr=w.drewN q)∧Hid (l.take k=l'.take k)) (fun iv _=>n - (intOf iv).toNat)
  case atStart=>exact ⟨0,0,Nat.zero_le _,rfl,rfl,rfl⟩
  case round =>
   obtain ⟨k,q,hk,rfl,HQ,HT⟩:=hrel
   by_cases hlt:k < n
   ·obtain ⟨a,ha⟩:∃ a,l[k]? = some a:=⟨l[k]'(by rw [← HN.out];exact hlt),List.getElem?_eq_getElem _⟩
    obtain ⟨b,hb⟩:∃ a,l'[k]? = some a:=⟨l'[k]'(by rw [← HM.out];exact hlt),List.getElem?_eq_getElem _⟩
    have h9:Cs wr A (cellsA l):=by rw [HQ.out];exact h.dn q
    have h9':Cs wr B (cellsA l'):=by rw [HQ.out];exact h'.dn q
    obtain ⟨ad,rfl,had,a0,a1,a2⟩:=cs_at3 h9 ha
    obtain ⟨bd,rfl,hbd,b0,b1,b2⟩:=cs_at3 h9' hb
    have k0:(0:Int)≤(k:Int):=by omega
    have k1:(k:Int) < (n:Int):=by omega
    by_cases he:a=b
    ·have HT2:Hid (l.take (k + 1)=l'.take (k + 1)):=take_moreA ha (by rw [hb,he]) HT.out
     have q1:∀ W,(binOp .neq 166 (.agg #[.string a.1,.string a.2.1,.int .i64 a.2.2]) (.agg #[.string b.1,.string b.2.1,.int .i64 b.2.2])).run Tryz.prog W = .ok (.bool false) W:=fun W=>by
      rw [rneq W,eqA_al,decide_eq_true he];rfl
     clear he ha hb h9 h9' had hbd
     go_wp2_with fail
     go_quiet (fail)
     go_wp2
     go_roundw
     case rel =>
      obtain ⟨q2,hq2⟩:=ydrew_more HQ
      exact ⟨k + 1,q2,by omega,by go_num,hq2,HT2⟩
     case measure=>simp [intOf];omega
    ·have HD:Hid (sameA l l'=false):=decide_eq_false (fun e=>he (by rw [e,hb] at ha;exact (Option.some.inj ha).symm))
     have q1:∀ W,(binOp .neq 166 (.agg #[.string a.1,.string a.2.1,.int .i64 a.2.2]) (.agg #[.string b.1,.string b.2.1,.int .i64 b.2.2])).run Tryz.prog W = .ok (.bool true) W:=fun W=>by
      rw [rneq W,eqA_al,decide_eq_false he];rfl
     clear he ha hb h9 h9' had hbd
     go_wp2_with fail
     go_quiet (fail)
     go_wp2
     go_ret
     exact ⟨ybool HD.out.symm,ydrew_more HQ⟩
   ·obtain rfl:k=n:=by omega
    go_wp2
    go_ret
    refine ⟨ybool (Eq.symm (decide_eq_true ?_)),q,HQ.out⟩
    have h3:=HT.out
    rwa [List.take_of_length_le (by rw [← HN.out];exact Nat.le_refl _),List.take_of_length_le (by rw [← HM.out];exact Nat.le_refl _)] at h3
 ·have d1:((n:Int) == (m:Int))=false:=by rw [beq_eq_false_iff_ne];omega
  have HD:Hid (sameA l l'=false):=decide_eq_false (fun e=>hnm (by rw [hn,hm,e]))
  clear hnm hn hm
  go_enter Tryz.func47,Tryz.ntmps47
  go_wp2
  go_ret
  exact ⟨ybool HD.out.symm,0,rfl⟩
theorem sameParts11_any {A B:Option Addr} {n m c d:Nat} {l l':List PL} {w:World} (h:Ps w A l) (h':Ps w B l') (hn:n=l.length) (hm:m=l'.length) (hl:n≤1000000) (hl':m≤1000000) (hf:LenP l) (hf':LenP l') :
 Calls Tryz.prog 22 #[.slice A n c,.slice B m d] w (BoolQ w (sameP l l')):=by
 by_cases hnm:n=m
 ·subst hnm
  have HN:=khide hn
  have HM:=khide hm
  have HF:=khide hf
  have HF':=khide hf'
  clear hn hm hf hf'
  go_enter Tryz.func22,Tryz.ntmps22
  go_wp2
  go_loopw [5] (fun iv wr=>∃ k q:Nat,k≤n∧iv = .int .i64 (k:Int)∧Hid (wr=w.drewN q)∧Hid (l.take k=l'.take k)) (fun iv _=>n - (intOf iv).toNat)
  case atStart=>exact ⟨0,0,Nat.zero_le _,rfl,rfl,rfl⟩
  case round =>
   obtain ⟨k,q,hk,rfl,HQ,HT⟩:=hrel
   by_cases hlt:k < n
   ·obtain ⟨a,ha⟩:∃ a,l[k]? = some a:=⟨l[k]'(by rw [← HN.out];exact hlt),List.getElem?_eq_getElem _⟩
    obtain ⟨b,hb⟩:∃ a,l'[k]? = some a:=⟨l'[k]'(by rw [← HM.out];exact hlt),List.getElem?_eq_getElem _⟩
    have h9:Ps wr A l:=by rw [HQ.out];exact h
    have h9':Ps wr B l':=by rw [HQ.out];exact h'
    obtain ⟨ad,A1,A2,c1,c2,rfl,had,a0,a1,a2,HA1,HA2⟩:=h9.at_ ha
    obtain ⟨bd,B1,B2,d1,d2,rfl,hbd,b0,b1,b2,HB1,HB2⟩:=h9'.at_ hb
    have fa:=HF.out _ (List.mem_of_getElem? ha)
    have fb:=HF'.out _ (List.mem_of_getElem? hb)
    obtain ⟨x1,x2,t⟩:=a
    obtain ⟨y1,y2,u⟩:=b
    dsimp only at a0 a1 a2 b0 b1 b2
    obtain ⟨r1,hr1⟩:∃ r,sameA x1 y1=r:=⟨_,rfl⟩
    obtain ⟨r2,hr2⟩:∃ r,sameA x2 y2=r:=⟨_,rfl⟩
    have C1:Hid (∀ (X Y:Value) (j:Nat),X = .slice A1 x1.length c1→Y = .slice B1 y1.length d1→Calls Tryz.prog 47 #[X,Y] (wr.drewN j) fun e w'=>e = .returned (.bool r1) ∧ ∃ i,w'=(wr.drewN j).drewN i):=fun X Y j eX eY=>by subst eX;subst eY;exact hr1 ▸ sameAtoms_any11 (HA1.dn j) (HB1.dn j) rfl rfl fa.1 fb.1
    have C2:Hid (∀ (X Y:Value) (j:Nat),X = .slice A2 x2.length c2→Y = .slice B2 y2.length d2→Calls Tryz.prog 47 #[X,Y] (wr.drewN j) fun e w'=>e = .returned (.bool r2) ∧ ∃ i,w'=(wr.drewN j).drewN i):=fun X Y j eX eY=>by subst eX;subst eY;exact hr2 ▸ sameAtoms_any11 (HA2.dn j) (HB2.dn j) rfl rfl fa.2 fb.2
    have k0:(0:Int)≤(k:Int):=by omega
    have k1:(k:Int) < (n:Int):=by omega
    have HD:Hid ((x1,x2,t) ≠ (y1,y2,u)→sameP l l'=false):=fun he=>decide_eq_false (fun e=>he (by rw [e,hb] at ha;exact (Option.some.inj ha).symm))
    have HT2:Hid ((x1,x2,t)=(y1,y2,u)→l.take (k + 1)=l'.take (k + 1)):=fun he=>take_moreA ha (by rw [hb,he]) HT.out
    have HE1:Hid (x1=y1 ↔ r1=true):=by unfold Hid;rw [← hr1];unfold sameA;rw [decide_eq_true_eq]
    have HE2:Hid (x2=y2 ↔ r2=true):=by unfold Hid;rw [← hr2];unfold sameA;rw [decide_eq_true_eq]
    clear ha hb h9 h9' hr1 hr2 HA1 HA2 HB1 HB2 fa fb had hbd
    by_cases ht:t=u
    ·have s1:(t.toList == u.toList)=true:=by rw [ht];simp
     have s2:(t.toList != u.toList)=false:=by rw [bne,s1];rfl
     have HTU:=khide ht
     clear ht
     cases r1 with
     | false =>
       have HV:Hid (sameP l l'=false):=HD.out (fun e=>by injection e with e1 _;exact absurd (HE1.out.1 e1) (by simp))
       go_wp2_with fail
       go_quiet (first | (go_at_call 47;first | exact Calls.quiet_of (C1.out _ _ _ (by rfl) (by rfl)) | exact Calls.quiet_of (C2.out _ _ _ (by rfl) (by rfl))) | fail)
       go_wp2
       go_ret
       exact ⟨ybool HV.out.symm,ydrew_more HQ⟩
     | true =>
       cases r2 with
       | false =>
         have HV:Hid (sameP l l'=false):=HD.out (fun e=>by injection e with _ e1;injection e1 with e1 _;exact absurd (HE2.out.1 e1) (by simp))
         go_wp2_with fail
         go_quiet (first | (go_at_call 47;first | exact Calls.quiet_of (C1.out _ _ _ (by rfl) (by rfl)) | exact Calls.quiet_of (C2.out _ _ _ (by rfl) (by rfl))) | fail)
         go_wp2
         go_ret
         exact ⟨ybool HV.out.symm,ydrew_more HQ⟩
       | true =>
         have HV:Hid (l.take (k + 1)=l'.take (k + 1)):=HT2.out (by rw [HE1.out.2 rfl,HE2.out.2 rfl,HTU.out])
         go_wp2_with fail
         go_quiet (first | (go_at_call 47;first | exact Calls.quiet_of (C1.out _ _ _ (by rfl) (by rfl)) | exact Calls.quiet_of (C2.out _ _ _ (by rfl) (by rfl))) | fail)
         go_wp2
         go_roundw
         case rel =>
          obtain ⟨q2,hq2⟩:=ydrew_more HQ
          exact ⟨k + 1,q2,by omega,by go_num,hq2,HV⟩
         case measure=>simp [intOf];omega
    ·have s1:(t.toList == u.toList)=false:=str_ne ht
     have s2:(t.toList != u.toList)=true:=by rw [bne,s1];rfl
     have HV:Hid (sameP l l'=false):=HD.out (fun e=>by injection e with _ e1;injection e1 with _ e1;exact ht e1)
     clear ht
     go_wp2_with fail
     go_quiet (first | (go_at_call 47;first | exact Calls.quiet_of (C1.out _ _ _ (by rfl) (by rfl)) | exact Calls.quiet_of (C2.out _ _ _ (by rfl) (by rfl))) | fail)
     go_wp2
     go_ret
     exact ⟨ybool HV.out.symm,ydrew_more HQ⟩
   ·obtain rfl:k=n:=by omega
    go_wp2
    go_ret
    refine ⟨ybool (Eq.symm (decide_eq_true ?_)),q,HQ.out⟩
    have h3:=HT.out
    rwa [List.take_of_length_le (by rw [← HN.out];exact Nat.le_refl _),List.take_of_length_le (by rw [← HM.out];exact Nat.le_refl _)] at h3
 ·have d1:((n:Int) == (m:Int))=false:=by rw [beq_eq_false_iff_ne];omega
  have HD:Hid (sameP l l'=false):=decide_eq_false (fun e=>hnm (by rw [hn,hm,e]))
  clear hnm hn hm
  go_enter Tryz.func22,Tryz.ntmps22
  go_wp2
  go_ret
  exact ⟨ybool HD.out.symm,0,rfl⟩
end Go.Proofs.YtfflmmbhpchloaaGreatDoor
end
section
open Go.RowKit
open Go.Proofs.YtfflmmbhpchloaaGreatDoor.V
namespace Go.Proofs.YtfflmmbhpchloaaGreatDoor
theorem parse_unit {T:Tb} {s0:ByteArray} {ps:List PL} (hR:T.parse s0 = .ok ps):∃ u,unitD T.names T.prefs u = .ok ps:=by
 unfold Tb.parse at hR
 split at hR
 ·cases hR
 ·split at hR
  ·exact ⟨_,hR⟩
  ·cases hR
theorem parse_errs {T:Tb} {s0:ByteArray} {v:Int} (hR:T.parse s0 = .error v):v=11 ∨ v=2:=by
 unfold Tb.parse at hR
 split at hR
 ·injection hR with hR;exact .inl hR.symm
 ·split at hR
  ·exact unitD_err hR
  ·injection hR with hR;exact .inr hR.symm
theorem unitD_more {names ps:List ByteArray} {s:ByteArray} {r:List PL} (hD:unitD names ps s = .ok r):(∀ q ∈ r.map ofP,FitN q)∧r ≠ []∧(∀ q ∈ r.map ofP,LenQ q)∧LenP r:=by
 obtain ⟨k1,k2,k3,k4⟩:=unitD_ok hD
 have hok:=partsL_ok k3
 have hpw:=partsL_pow k3
 refine ⟨fun q hq=>?_,fun e=>?_,fun q hq=>?_,fun p hp=>?_⟩
 ·obtain ⟨p,hp,rfl⟩:=List.mem_map.1 hq
  have h8:=(hok p hp).2
  exact ⟨by show p.1.length≤12;omega,by show p.2.1.length≤12;omega,(hpw p hp).1.pows,(hpw p hp).2.pows⟩
 ·have:=partsL_len k3
  rw [e] at this
  exact cutBy_ne _ (List.eq_nil_of_length_eq_zero this.symm)
 ·obtain ⟨p,hp,rfl⟩:=List.mem_map.1 hq
  have:=(hok p hp).2
  exact ⟨by show p.1.length≤_;omega,by show p.2.1.length≤_;omega⟩
 ·have:=(hok p hp).2
  exact ⟨by omega,by omega⟩
theorem q1_gr {W:World} {A1 A2 A3:Option Addr} {n1 c1 n2 c2 n3 c3:Nat} {q:QL} (h:Q1 W (.slice A1 n1 c1) (.slice A2 n2 c2) (.slice A3 n3 c3) q) (hg:greatQ q=false):PtR W A1 n1 A2 n2 q.1 q.2.1:=by
 obtain ⟨B1,d1,B2,d2,B3,d3,e1,e2,e3,b1,b2,b3,b4,r1,r2,r3,r4⟩:=h.out
 injection e1 with e1 f1 g1;injection e2 with e2 f2 g2;injection e3 with e3 f3 g3
 subst e1;subst e2;subst e3;subst g1;subst g2;subst g3
 unfold greatQ at hg
 simp only [Bool.or_eq_false_iff,decide_eq_false_iff_not] at hg
 obtain ⟨_,h2,h3,h4⟩:=hg
 refine ⟨r1,r2,f1,f2,fun a ha=>?_,by omega,by omega⟩
 have hl:longA a=false:=by
  rcases List.mem_append.1 ha with h | h
  ·simpa using List.any_eq_false.1 h3 a h
  ·simpa using List.any_eq_false.1 h4 a h
 unfold longA at hl
 simp only [decide_eq_false_iff_not] at hl
 omega
theorem qs_zero {W:World} {g:Nat} {q:QL} {qs:List QL} (h:Qs W (some ⟨g,0,none⟩) qs) (hk:qs[0]? = some q):∃ A1 n1 c1 A2 n2 c2 A3 n3 c3,g < W.heap.size∧W.cell? ⟨g,0,none⟩=some (.slice A1 n1 c1)∧W.cell? ⟨g,1,none⟩=some (.slice A2 n2 c2)∧W.cell? ⟨g,2,none⟩=some (.slice A3 n3 c3)∧Q1 W (.slice A1 n1 c1) (.slice A2 n2 c2) (.slice A3 n3 c3) q:=by
 have hl:0 < qs.length:=(List.getElem?_eq_some_iff.1 hk).1
 obtain ⟨ad,e,hb,hc⟩:=h.out (by omega)
 cases e
 obtain ⟨v1,v2,v3,h1,h2,h3,h4⟩:=hc 0 q hk
 have h5:Q1 W v1 v2 v3 q:=h4
 obtain ⟨A1,c1,A2,c2,A3,c3,rfl,rfl,rfl,-⟩:=h5.open_
 exact ⟨A1,_,c1,A2,_,c2,A3,_,c3,hb,h1,h2,h3,h4⟩
theorem norms_zero {qs rs:List QL} (h:normQs qs=some rs) {q:QL} (hq:qs[0]? = some q):∃ r,rs[0]? = some r∧normQ q=some r:=by
 cases qs with
 | nil=>cases hq
 | cons p qs =>
   injection hq with hq;subst hq
   unfold normQs at h
   cases hp:normQ p with
   | none=>rw [hp] at h;cases h
   | some r =>
     cases ht:normQs qs with
     | none=>rw [hp,ht] at h;cases h
     | some rs'=>rw [hp,ht] at h;injection h with h;subst h;exact ⟨r,rfl,rfl⟩
theorem metric_vec {q r:QL} (h:normQ q=some r) {a b:V8} {x y:Bool} (ha:(metricT.vec (q.1,q.2.1)).getD V8.z=a) (hx:(metricT.vec (q.1,q.2.1)).isSome=x) (hb:(metricT.vec (r.1,r.2.1)).getD V8.z=b) (hy:(metricT.vec (r.1,r.2.1)).isSome=y):x=true→y=true→a=b:=by
 intro h1 h2
 cases hu:metricT.vec (q.1,q.2.1) with
 | none=>rw [hu,h1] at hx;cases hx
 | some u =>
   cases hv:metricT.vec (r.1,r.2.1) with
   | none=>rw [hv,h2] at hy;cases hy
   | some v =>
     rw [hu] at ha;rw [hv] at hb
     rw [← ha,← hb]
     exact vec_norm h hu hv
theorem v8_eq (w:World) (a b:V8) (h:a=b):(binOp .eql 36 a.v b.v).run Tryz.prog w = .ok (.bool true) w:=by
 subst h
 have h1:=veql w 36 3 8 Tryz.underlying36 Tryz.underlying3 (fun w=>by kernel_rfl) [a.x0,a.x1,a.x2,a.x3,a.x4,a.x5,a.x6,a.x7] [a.x0,a.x1,a.x2,a.x3,a.x4,a.x5,a.x6,a.x7] rfl rfl
 rw [show ([a.x0,a.x1,a.x2,a.x3,a.x4,a.x5,a.x6,a.x7] == [a.x0,a.x1,a.x2,a.x3,a.x4,a.x5,a.x6,a.x7])=true by simp] at h1
 exact h1
def footS:ByteArray:=⟨#[102,111,111,116]⟩
def meterS:ByteArray:=⟨#[109,101,116,101,114]⟩
def entD (o:Option Ent):Ent:=o.getD ⟨⟨#[]⟩,0,0,0,false,V8.z,0⟩
theorem entD_eq {o:Option Ent} (h:o.isSome=true):o=some (entD o):=by
 cases o with
 | none=>cases h
 | some e=>rfl
theorem foot_some:(lookL awakeT.ents footS).isSome=true:=by decide +kernel
theorem meter_some:(lookL awakeT.ents meterS).isSome=true:=by decide +kernel
theorem foot_facts:(entD (lookL awakeT.ents footS)).id=meterS∧(entD (lookL awakeT.ents footS)).base = -1∧(entD (lookL awakeT.ents footS)).fac=mkRat 381 1250:=by decide +kernel
theorem meter_base:(entD (lookL awakeT.ents meterS)).base=0:=by decide +kernel
theorem foot_text:decQ (mkRat 381 1250)=[51,56,49,47,49,50,53,48]:=by
 have h1:(mkRat 381 1250).num=381∧(mkRat 381 1250).den=1250:=by decide +kernel
 unfold decQ
 rw [h1.1,h1.2,if_neg (by decide)]
 unfold decZ
 rw [if_neg (by decide),show (381:Int).natAbs=381 from rfl]
 rw [decL_lit (m:=381) (ds:=[1,8,3]) (l:=[51,56,49]) (by intro x hx;simp at hx;omega) (by intro x hx;simp at hx;omega) rfl (by decide) (by decide),decL_lit (m:=1250) (ds:=[0,5,2,1]) (l:=[49,50,53,48]) (by intro x hx;simp at hx;omega) (by intro x hx;simp at hx;omega) rfl (by decide) (by decide)]
 rfl
theorem awake_h {W:World} (tb:Tabs W):Calls Tryz.prog 7 #[] W (RetB W true):=by
 have CL:Hid (Calls Tryz.prog 9 #[.string awakeS] W (LoC W awakeT)):=awake_load tb
 obtain ⟨f1,f2,f3⟩:=foot_facts
 obtain ⟨fr,hfr⟩:∃ r,mkRat 381 1250=r:=⟨_,rfl⟩
 have hft:=foot_text
 rw [hfr] at f3 hft
 have CE1:Hid (∀ W' base p x,TabM base W' p x awakeT→Calls Tryz.prog 16 #[.pointer (some ⟨p,0,none⟩),.string footS] W' (fun e w'=>∃ b A n c A' n' c' b2 B k d B' k' d' ho,e = .returned (.tuple #[.agg #[.string footS,.string meterS,.int .i64 (-1),.bool b,.slice A n c,.slice A' n' c',.bool b2,.slice B k d,.slice B' k' d',.bool ho],.bool true])∧QA w' b A n c A' n' c' fr 101∧Bel W' w')):=fun W' base p x h=>by
  have h1:=tentry_h (s:=footS) h (by decide)
  rw [entD_eq foot_some] at h1
  refine h1.mono ?_
  rintro e w' ⟨b,A,n,c,A',n',c',b2,B,k,d,B',k',d',h2,h3,_,h5⟩
  rw [f1,f2] at h2
  rw [f3] at h3
  exact ⟨b,A,n,c,A',n',c',b2,B,k,d,B',k',d',_,h2,h3,h5⟩
 have CE2:Hid (∀ W' base p x,TabM base W' p x awakeT→Calls Tryz.prog 16 #[.pointer (some ⟨p,0,none⟩),.string meterS] W' (fun e w'=>∃ id b A n c A' n' c' b2 B k d B' k' d' ho,e = .returned (.tuple #[.agg #[.string meterS,.string id,.int .i64 0,.bool b,.slice A n c,.slice A' n' c',.bool b2,.slice B k d,.slice B' k' d',.bool ho],.bool true])∧Bel W' w')):=fun W' base p x h=>by
  have h1:=tentry_h (s:=meterS) h (by decide)
  rw [entD_eq meter_some] at h1
  refine h1.mono ?_
  rintro e w' ⟨b,A,n,c,A',n',c',b2,B,k,d,B',k',d',h2,_,_,h5⟩
  rw [meter_base] at h2
  exact ⟨_,b,A,n,c,A',n',c',b2,B,k,d,B',k',d',_,h2,h5⟩
 have CT:Hid (∀ W' b A n c A' n' c',QA W' b A n c A' n' c' fr 101→Calls Tryz.prog 18 #[.agg #[.bool b,.slice A n c,.slice A' n' c']] W' (fun e w'=>e = .returned (.string ⟨#[51,56,49,47,49,50,53,48]⟩)∧Bel W' w')):=fun W' b A n c A' n' c' hq=>(rtext_h hq (by decide) (by decide)).mono (by
  rintro e w' ⟨u,h1,h2,h3⟩
  have h4:u=⟨#[51,56,49,47,49,50,53,48]⟩:=by
   have h5:=h2.out
   rw [hft] at h5
   obtain ⟨d⟩:=u
   have h6:d = #[51,56,49,47,49,50,53,48]:=by rw [← Array.toArray_toList (xs:=d)];exact congrArg List.toArray h5
   rw [h6]
  rw [h4] at h1
  exact ⟨h1,h3⟩)
 unfold awakeS at CL
 unfold footS meterS at CE1
 unfold meterS at CE2
 clear f1 f2 f3 hfr hft tb
 go_enter Tryz.func7,Tryz.ntmps7
 go_upto_region 4 with (first | (go_at_call 9;(with_reducible refine CL.out.mono ?_);rintro e w1 ⟨base,p,x,hbs,rfl,ht,hb1⟩) | fail)
 go_upto_region 5 with (first | (go_at_call 16;(with_reducible refine (CE1.out _ _ _ _ ht).mono ?_);rintro e w2 ⟨b,A,n,c,A',n',c',b2,B,k,d,B',k',d',ho,rfl,hq,hb2⟩) | (refine wpList_store_new 55 [.string ⟨#[102,111,111,116]⟩,.string ⟨#[109,101,116,101,114]⟩,.int .i64 (-1),.bool b,.slice A n c,.slice A' n' c',.bool b2,.slice B k d,.slice B' k' d',.bool ho] (.tmp 4) (.tmp 22) _ rfl rfl rfl rfl (by kernel_rfl) rfl rfl ?_) | fail)
 refine kwp_named ?_
 intro w3 hw3
 have HE:At w3 w2.heap.size [.string ⟨#[102,111,111,116]⟩,.string ⟨#[109,101,116,101,114]⟩,.int .i64 (-1),.bool b,.slice A n c,.slice A' n' c',.bool b2,.slice B k d,.slice B' k' d',.bool ho]:=by rw [hw3];exact at_new0 _ _ _
 replace ht:TabM base w3 p x awakeT:=by rw [hw3];exact (ht.up hb2.hid).al _
 have HB:Bel W w3:=by rw [hw3];exact (hb1.up hb2.hid).al _
 replace hq:QA w3 b A n c A' n' c' fr 101:=by rw [hw3];exact hq.al _
 obtain ⟨q4,hq4⟩:∃ z,z=w2.heap.size:=⟨_,rfl⟩
 rw [← hq4] at HE ⊢
 clear hw3 hq4 hb1 hb2 hbs
 go_upto_region 6 with (first | (go_at_call 16;(with_reducible refine (CE2.out _ _ _ _ ht).mono ?_);rintro e w4 ⟨id2,b5,A5,n5,c5,A6,n6,c6,b6,B5,k5,d5,B6,k6,d6,ho6,rfl,hb4⟩) | (refine wpList_store_new 55 [.string ⟨#[109,101,116,101,114]⟩,.string id2,.int .i64 0,.bool b5,.slice A5 n5 c5,.slice A6 n6 c6,.bool b6,.slice B5 k5 d5,.slice B6 k6 d6,.bool ho6] (.tmp 6) (.tmp 27) _ rfl rfl rfl rfl (by kernel_rfl) rfl rfl ?_) | fail)
 refine kwp_named ?_
 intro w5 hw5
 have HF:At w5 w4.heap.size [.string ⟨#[109,101,116,101,114]⟩,.string id2,.int .i64 0,.bool b5,.slice A5 n5 c5,.slice A6 n6 c6,.bool b6,.slice B5 k5 d5,.slice B6 k6 d6,.bool ho6]:=by rw [hw5];exact at_new0 _ _ _
 replace HE:=(HE.up hb4.hid).al (.cells #[.string ⟨#[109,101,116,101,114]⟩,.string id2,.int .i64 0,.bool b5,.slice A5 n5 c5,.slice A6 n6 c6,.bool b6,.slice B5 k5 d5,.slice B6 k6 d6,.bool ho6] 55)
 replace hq:=(hq.up hb4.hid).al (.cells #[.string ⟨#[109,101,116,101,114]⟩,.string id2,.int .i64 0,.bool b5,.slice A5 n5 c5,.slice A6 n6 c6,.bool b6,.slice B5 k5 d5,.slice B6 k6 d6,.bool ho6] 55)
 replace HB:Bel W w5:=by rw [hw5];exact (HB.up hb4.hid).al _
 rw [← hw5] at HE hq
 obtain ⟨q6,hq6⟩:∃ z,z=w4.heap.size:=⟨_,rfl⟩
 rw [← hq6] at HF ⊢
 clear hw5 hq6 hb4 ht
 have e1:=HE.c1;have e2:=HE.c2;have e3:=at_nth HE 3 rfl;have e4:=at_nth HE 4 rfl;have e5:=at_nth HE 5 rfl;have el:=HE.lt
 have g2:=HF.c2;have gl:=HF.lt
 go_wp2_with (first | (go_at_call 18;(with_reducible refine (CT.out _ _ _ _ _ _ _ _ hq).mono ?_);rintro e w6 ⟨rfl,hb6⟩;replace HE:=HE.up hb6.hid;replace HF:=HF.up hb6.hid;replace HB:=HB.up hb6.hid;clear e1 e2 e3 e4 e5 el g2 gl;have e1:=HE.c1;have e2:=HE.c2;have el:=HE.lt;have g2:=HF.c2;have gl:=HF.lt) | fail)
 go_ret
 exact ⟨rfl,HB⟩
theorem metric_als:metricT.als.all (fun a=>decide (a.2.size≤256))=true:=by decide +kernel
theorem metric_ents:metricT.ents.length=9:=by decide +kernel
theorem metric_vals:metricT.vals.length=2:=by decide +kernel
end Go.Proofs.YtfflmmbhpchloaaGreatDoor
end
