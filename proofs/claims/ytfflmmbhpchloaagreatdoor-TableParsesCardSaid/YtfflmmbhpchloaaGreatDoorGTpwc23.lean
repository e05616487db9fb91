/- Each theorem here says its own conditions. -/
import Derived.Test.YtfflmmbhpchloaaGreatDoorGTpwc22
set_option maxRecDepth 100000
set_option maxHeartbeats 16000000
section
open Go.RowKit
namespace Go.Proofs.YtfflmmbhpchloaaGreatDoor
theorem combine_any {W:World} {A:Option Addr} {n c:Nat} {l:List AL} (h:Cs W A (cellsA l)) (hn:n=l.length) (hl:n≤12) (hf:PowsQ l) {res:Option (List AL)} (hres:combL l=res) :
 Calls Tryz.prog 45 #[.slice A n c] W (AtomsP W res):=by
 have CC:Hid (Calls Tryz.prog 79 #[.slice A n c] W (RetCs W l)):=clone_any h hn (by omega)
 obtain ⟨s,hs⟩:∃ s,sortQ l=s:=⟨_,rfl⟩
 have HSL:Hid (s.length=n):=by rw [← hs,sortQ_len,hn];rfl
 have HSP:Hid (PowsQ s):=fun a ha=>hf a (((sortQ_facts l).1.mem_iff).1 (by rw [hs];exact ha))
 have HRES:Hid (foldQ [] s=res):=by rw [← hs];exact hres
 have CS:Hid (∀ (W2:World) (b c1 n':Nat) (R:Option Addr),n'=l.length→At W2 b [.slice R n' c1]→Hid (W2.ownsRow W.heap.size 96 3 (.slice R n' c1) n' (cellsA l))→W.heap.size≤b→(∀ g,R=some ⟨g,0,none⟩→b ≠ g)→Bel W W2 →
  Calls Tryz.prog 80 #[.iface 39 (.slice R n' c1),.func (.func 81) #[] #[.pointer (some ⟨b,0,none⟩)]] W2 fun e w'=>e = .returned (.tuple #[])∧Hid (At w' b [.slice R n c1])∧Hid (Cs w' R (cellsA s))∧Hid (Bel W w')):=by
  intro W2 b c1 n' R hn' hb ho hwb hne hbel
  obtain rfl:n=n':=by omega
  have ho:=ho.out
  obtain ⟨g,hA,hg,hbg,hk⟩:∃ g,(0 < n→R=some ⟨g,0,none⟩)∧W.heap.size≤g∧(0 < n→b ≠ g)∧(g < W2.heap.size∧HK W2 g l.toArray):=by
   by_cases h0:0 < n
   ·rcases ho.2 with ⟨_,h1⟩ | ⟨g,cap,cur,e,hb',_⟩
    ·omega
    ·injection e with e1 e2 e3
     subst e1
     exact ⟨g,fun _=>rfl,hb',fun _=>hne g rfl,(at_of_own ho).1.lt,hk_of (by simpa using (at_of_own ho).1)⟩
   ·have hl0:l=[]:=List.eq_nil_of_length_eq_zero (by omega)
    exact ⟨b,fun h1=>absurd h1 h0,hwb,fun h1=>absurd h1 h0,hb.lt,fun t ht=>by subst hl0;simp [Sort.flatK] at ht⟩
  have hR:RowR W b g R n c1 l.toArray W2:=⟨hb,hk,hbel⟩
  refine (slice_any hR (by simp [hn]) hA hbg hg hl).mono fun e w' ⟨h1,h2⟩=>⟨h1,h2.1,?_,h2.2.2⟩
  have h3:=h2.cs hA (by have:=(sortQ_facts l).2.2;rw [hn];exact this)
  rw [← hs]
  unfold sortQ
  rw [← hn]
  exact h3
 have HN:=khide hn
 obtain ⟨i0,hi,hz0,hz1,hz2⟩:=info_parts infoAtomP
 have J0:=khide hi;have Y0:=khide hz0;have Y1:=khide hz1;have Y2:=khide hz2
 clear h hn hf hres hs hi hz0 hz1 hz2
 go_enter Tryz.func45,Tryz.ntmps45
 go_upto_region 1 with fail
 go_upto_region 2 with (first | (go_at_call 79;(with_reducible refine CC.out.mono ?_);rintro e w1 ⟨R,n1,c1,hn1,rfl,HO1,hb1⟩;replace hn1:=khide hn1) | fail)
 refine kwp_named ?_
 intro W2 hW2
 have HBX:At W2 w1.heap.size [.slice R n1 c1]:=by rw [hW2];exact at_new0 _ _ _
 have HO2:Hid (W2.ownsRow W.heap.size 96 3 (.slice R n1 c1) n1 (cellsA l)):=by rw [hW2];exact HO1.out.alloc _
 have HB2:Bel W W2:=by rw [hW2];exact (Bel.of hb1).al _
 have C2:=CS.out W2 w1.heap.size c1 n1 R hn1.out HBX HO2 hb1.out.size (fun g e=>by
  subst e
  have:=(at_of_own HO1.out).1.lt
  omega) HB2
 have C3:=khide C2
 have hb_0:=HBX.c0;have hb_l:=HBX.lt
 have hnn:n1=n:=by have:=HN.out;have:=hn1.out;omega
 obtain ⟨bx,hbx⟩:∃ b,b=w1.heap.size:=⟨_,rfl⟩
 rw [← hbx] at hb_0 hb_l C3
 rw [← hbx]
 clear C2 hW2 hbx HBX HO2 CC CS HO1 hb1 hn1 HB2
 subst hnn
 go_upto_region 4 with (first | (go_at_call 80;(with_reducible refine C3.out.mono ?_);rintro e w3 ⟨rfl,HBX,HS,HBW⟩) | fail)
 have hx_0:=HBX.out.c0;have hx_l:=HBX.out.lt
 clear hb_0 hb_l C3
 go_wp2_with fail
 clear hx_0 hx_l
 go_loopw [5,17] (fun rv iv wr=>∃ (k cp m:Nat) (R':Option Addr) (acc:List AL),k≤n1∧iv = .int .i64 (k:Int)∧rv = .slice R' m cp∧m≤k∧Hid (m=acc.length)∧Hid (foldQ acc (s.drop k)=res)∧Hid (PowsQ acc)∧Hid (wr.ownsRow w3.heap.size 96 3 (.slice R' m cp) m (cellsA acc))∧Hid (Below w3.heap.size w3 wr)) (fun _ iv _=>n1 - (intOf iv).toNat)
 case atStart=>exact ⟨0,0,0,none,[],Nat.zero_le _,rfl,rfl,Nat.le_refl _,rfl,HRES,(fun a h=>by cases h),World.ownsRow_nil _ _ _ _,Below.refl _ _⟩
 case round =>
  obtain ⟨k,cp,m,R',acc,hk,rfl,rfl,hmk,HM,HV0,HP,HO,HB⟩:=hrel
  by_cases hlt:k < n1
  ·obtain ⟨a,ha⟩:∃ a,s[k]? = some a:=⟨s[k]'(by rw [HSL.out];exact hlt),List.getElem?_eq_getElem _⟩
   obtain ⟨ad,rfl,had,a0,a1,a2⟩:=cs_at3 (HS.out.up HB) ha
   have hpk:=HSP.out a (List.mem_of_getElem? ha)
   obtain ⟨p,nm,pk⟩:=a
   have HPK:Hid (0≤pk∧pk≤1000000):=hpk
   have HBS:Hid (w3.heap.size≤wr.heap.size):=HB.out.size
   have k0:(0:Int)≤(k:Int):=by omega
   have k1:(k:Int) < (n1:Int):=by omega
   clear hpk
   rcases list_last acc with hacc | ⟨acc',q,hacc⟩
   ·have HV:Hid (foldQ ([] ++ [(p,nm,pk)]) (s.drop (k + 1))=res):=by
     rw [← HV0.out,hacc];exact (foldQ_yes ha (addQ_nil _)).symm
    have HP2:Hid (PowsQ ([] ++ [(p,nm,pk)])):=pows_snoc (fun a h=>by cases h) HPK.out
    subst hacc
    obtain rfl:m=0:=HM.out
    have w0:IntKind.i64.wrap (0 - 1) = -1:=by decide
    have w1':IntKind.i64.wrap (-1) = -1:=by decide
    have d0:decide ((-1:Int) < 0)=true:=by decide
    clear ha
    go_upto_region 8 with fail
    refine kwp_named ?_
    intro W5 hW5
    have H7:At W5 wr.heap.size [.string p,.string nm,.int .i64 pk]:=by rw [hW5];exact at_new0 _ _ _
    have HO5:Hid (W5.ownsRow w3.heap.size 96 3 (.slice R' 0 cp) 0 (cellsA [])):=by rw [hW5];exact HO.out.alloc _
    have HB5:Hid (Below w3.heap.size w3 W5):=by rw [hW5];exact HB.out.alloc HB.out.size _
    have H7O:Hid (w3.heap.size≤wr.heap.size):=HBS
    obtain ⟨p7,hp7⟩:∃ b,b=wr.heap.size:=⟨_,rfl⟩
    rw [← hp7] at H7 H7O
    rw [← hp7]
    have c7_0:=H7.c0;have c7_1:=H7.c1;have c7_2:=H7.c2;have c7_l:=H7.lt
    clear hW5 HO HB HBS hp7
    go_quiet (fail)
    rename_i nq
    obtain ⟨W6,hW6⟩:∃ X,X=W5.drewN nq:=⟨_,rfl⟩
    rw [← hW6]
    clear c7_0 c7_1 c7_2 c7_l
    replace H7:At W6 p7 [.string p,.string nm,.int .i64 pk]:=by rw [hW6];exact ⟨H7.lt,H7.all⟩
    have HO6:Hid (W6.ownsRow w3.heap.size 96 3 (.slice R' 0 cp) 0 (cellsA [])):=by rw [hW6];exact HO5
    have HB6:Hid (Below w3.heap.size w3 W6):=by rw [hW6];exact ybelow_drewN HB5.out _
    have c7_0:=H7.c0;have c7_1:=H7.c1;have c7_2:=H7.c2;have c7_l:=H7.lt
    clear hW6 HO5 HB5
    go_wp2_with (first | (at_builtin;go_must (refine wpList_append_own _ rfl (.tmp 46) (.tmp 48) 39 rfl w3.heap.size 96 i0 (.agg #[.string ByteArray.empty,.string ByteArray.empty,.int .i64 0]) 3 40 Tryz.underlying39 J0.out Y0.out Y1.out Y2.out rfl (by decide) _ _ _ rfl (HO6.out.alloc _) ⟨W6.heap.size,0,none⟩ 1 1 (cellA (p,nm,pk)) rfl rfl (at_news (at_new0 _ _ _)) (cellA_one _) (by simp only [maxLen];omega) (by omega) (Nat.le_trans HB6.out.size (by simp)) ?_);intro v1 w4 ho1 hg1 hn1;clear hn1) | fail)
    have hg2:(W6.alloc (.cells #[.string p,.string nm,.int .i64 pk] 96)).grownBy w4 (Value.slice R' 0 cp).ownBlock:=hg1
    have HO2:=HO6.out.alloc (.cells #[.string p,.string nm,.int .i64 pk] 96)
    have HB4:Hid (Below w3.heap.size w3 w4):=(HB6.out.alloc HB6.out.size _).grown hg2 (HB6.out.alloc HB6.out.size _).size (fun g' e=>(HO2.lt g' e).1)
    obtain ⟨R2,cp2,rfl,_⟩:=own_slice ho1
    have HO3:=khide ho1
    clear hg1 hg2 ho1 HO2
    go_roundw
    case rel =>
     refine ⟨k + 1,cp2,0 + 1,R2,[] ++ [(p,nm,pk)],by omega,by go_num,rfl,by omega,?_,HV,HP2,?_,HB4⟩
     ·exact khide (by rw [List.length_append,← HM.out];rfl)
     ·rw [cellsA_snoc]
      unfold Hid
      simpa using HO3.out
    case measure=>simp [intOf];omega
   ·obtain ⟨q1,q2,q3⟩:=q
    obtain ⟨j,hj⟩:∃ j,j=acc'.length:=⟨_,rfl⟩
    have hm1:m=j + 1:=by rw [HM.out,hacc,hj];simp
    have hq3:0≤q3∧q3≤1000000:=HP.out (q1,q2,q3) (by rw [hacc];simp)
    have HPA:Hid (PowsQ acc'):=fun a h=>HP.out a (by rw [hacc];simp [h])
    obtain ⟨g',rfl,hgb⟩:∃ g,R'=some ⟨g,0,none⟩∧w3.heap.size≤g:=by
     rcases HO.out.2 with ⟨_,h1⟩ | ⟨g,cap,cur,e,hb',_⟩
     ·omega
     ·injection e with e1 e2 e3
      exact ⟨g,e1,hb'⟩
    have hq:acc[j]? = some (q1,q2,q3):=by rw [hacc,hj];simp
    obtain ⟨x0,x1,x2⟩:=cellsA_get hq
    have wj:IntKind.i64.wrap ((m:Int) - 1)=(j:Int):=by rw [hm1];simp [IntKind.wrap,IntKind.bits,IntKind.signed];omega
    have d0:decide ((j:Int) < 0)=false:=decide_eq_false (by omega)
    have k2:(0:Int)≤(j:Int):=by omega
    have k3:(j:Int) < (m:Int):=by omega
    have k4:j < m:=by omega
    have HJ:=khide hj
    have HM1:=khide hm1
    have HQ3:=khide hq3
    have HACC:=khide hacc
    have HHA:=khide ha
    clear hj hm1 hq3 ha hq hacc
    by_cases he:q1=p∧q2=nm
    ·have d1:(q1.toList == p.toList)=true:=by rw [he.1];simp
     have d2:(q2.toList == nm.toList)=true:=by rw [he.2];simp
     obtain ⟨v,hv⟩:∃ v,v=q3 + pk:=⟨_,rfl⟩
     have wv:IntKind.i64.wrap (q3 + pk)=v:=by rw [hv];have:=HQ3.out;have:=HPK.out;simp [IntKind.wrap,IntKind.bits,IntKind.signed];omega
     have HVV:=khide hv
     clear hv
     go_upto_region 8 with fail
     refine kwp_named ?_
     intro W5 hW5
     have H7:At W5 wr.heap.size [.string p,.string nm,.int .i64 pk]:=by rw [hW5];exact at_new0 _ _ _
     have HO5:Hid (W5.ownsRow w3.heap.size 96 3 (.slice (some ⟨g',0,none⟩) m cp) m (cellsA acc)):=by rw [hW5];exact HO.out.alloc _
     have HB5:Hid (Below w3.heap.size w3 W5):=by rw [hW5];exact HB.out.alloc HB.out.size _
     have H7O:Hid (w3.heap.size≤wr.heap.size):=HBS
     obtain ⟨p7,hp7⟩:∃ b,b=wr.heap.size:=⟨_,rfl⟩
     rw [← hp7] at H7 H7O
     rw [← hp7]
     have HA5:=(at_of_own HO5.out).1
     have y0:=HA5.ci x0;have y1:=HA5.ci x1
     have hgl:=HA5.lt
     have c7_0:=H7.c0;have c7_1:=H7.c1;have c7_2:=H7.c2;have c7_l:=H7.lt
     clear hW5 HO HB HBS hp7 HA5
     go_quiet (fail)
     rename_i nq
     obtain ⟨W6,hW6⟩:∃ X,X=W5.drewN nq:=⟨_,rfl⟩
     rw [← hW6]
     clear c7_0 c7_1 c7_2 c7_l y0 y1 hgl
     replace H7:At W6 p7 [.string p,.string nm,.int .i64 pk]:=by rw [hW6];exact ⟨H7.lt,H7.all⟩
     have HO6:Hid (W6.ownsRow w3.heap.size 96 3 (.slice (some ⟨g',0,none⟩) m cp) m (cellsA acc)):=by rw [hW6];exact HO5
     have HB6:Hid (Below w3.heap.size w3 W6):=by rw [hW6];exact ybelow_drewN HB5.out _
     have c7_0:=H7.c0;have c7_1:=H7.c1;have c7_2:=H7.c2;have c7_l:=H7.lt
     clear hW6 HO5 HB5
     have HA6:=(at_of_own HO6.out).1
     have y2:=HA6.ci x2;have y9:=HA6.fi x2;have hgl:=HA6.lt
     go_upto_region 10 with fail
     go_region_with fail
     all_goals (
      obtain ⟨W7,hW7⟩:∃ X,X=(W6.setCell ⟨g',j * 3 + 2,none⟩ (.int .i64 v)).drew:=⟨_,rfl⟩
      rw [← hW7]
      have HO7:Hid (W7.ownsRow w3.heap.size 96 3 (.slice (some ⟨g',0,none⟩) m cp) m (cellsA (acc' ++ [(q1,q2,v)]))):=by
       rw [hW7]
       have h1:=own_set HO6.out (i:=j * 3 + 2) (by rw [HO6.out.1];omega) (.int .i64 v)
       rw [HACC.out,HJ.out,cellsA_set] at h1
       rw [HJ.out]
       exact h1
      have HB7:Hid (Below w3.heap.size w3 W7):=by rw [hW7];exact (Below.setCell HB6.out (show w3.heap.size≤(⟨g',j * 3 + 2,none⟩:Addr).block from hgb) _).drew
      have HA7:=(at_of_own HO7.out).1
      clear y2 y9 hgl c7_0 c7_1 c7_2 c7_l H7 HO6 HB6 HA6 hW7
      have z2:=HA7.ci (i:=j * 3 + 2) (v:=.int .i64 v) (by rw [HJ.out];exact (cellsA_get (l:=acc' ++ [(q1,q2,v)]) (k:=acc'.length) (a:=(q1,q2,v)) (by simp)).2.2)
      have zl:=HA7.lt
      by_cases h15:15 < v
      ·have d3:decide ((15:Int) < v)=true:=decide_eq_true h15
       have HV:Hid (res=none):=by
        rw [← HV0.out];exact foldQ_no HHA.out (by rw [HACC.out];exact addQ_long he (by rw [← HVV.out];exact h15))
       clear he HA7
       go_wp2_with fail
       go_ret2
       rw [HV.out]
       exact ⟨rfl,(Bel.up HBW.out HB7)⟩
      ·have d3:decide ((15:Int) < v)=false:=decide_eq_false h15
       have HV:Hid (foldQ (acc' ++ [(q1,q2,v)]) (s.drop (k + 1))=res):=by
        rw [← HV0.out];exact (foldQ_yes HHA.out (by rw [HACC.out,HVV.out];exact addQ_sum he (by rw [← HVV.out];exact h15))).symm
       have HP2:Hid (PowsQ (acc' ++ [(q1,q2,v)])):=pows_snoc HPA.out (by have h1:=HQ3.out;have h2:=HPK.out;have h3:=HVV.out;show 0≤v∧v≤1000000;omega)
       clear he HA7
       go_wp2_with fail
       go_roundw
       case rel=>exact ⟨k + 1,cp,m,some ⟨g',0,none⟩,acc' ++ [(q1,q2,v)],by omega,by go_num,rfl,by omega,khide (by rw [HM1.out,HJ.out];simp),HV,HP2,HO7,HB7⟩
       case measure=>simp [intOf];omega)
    ·have HV:Hid (foldQ (acc ++ [(p,nm,pk)]) (s.drop (k + 1))=res):=by
      rw [← HV0.out];exact (foldQ_yes HHA.out (by rw [HACC.out];exact addQ_ne he)).symm
     have HP2:Hid (PowsQ (acc ++ [(p,nm,pk)])):=pows_snoc HP.out HPK.out
     by_cases he1:q1=p
     ·have d1:(q1.toList == p.toList)=true:=by rw [he1];simp
      have d2:(q2.toList == nm.toList)=false:=by rw [seqO];exact decide_eq_false (fun h=>he ⟨he1,h⟩)
      go_upto_region 8 with fail
      refine kwp_named ?_
      intro W5 hW5
      have H7:At W5 wr.heap.size [.string p,.string nm,.int .i64 pk]:=by rw [hW5];exact at_new0 _ _ _
      have HO5:Hid (W5.ownsRow w3.heap.size 96 3 (.slice (some ⟨g',0,none⟩) m cp) m (cellsA acc)):=by rw [hW5];exact HO.out.alloc _
      have HB5:Hid (Below w3.heap.size w3 W5):=by rw [hW5];exact HB.out.alloc HB.out.size _
      have H7O:Hid (w3.heap.size≤wr.heap.size):=HBS
      obtain ⟨p7,hp7⟩:∃ b,b=wr.heap.size:=⟨_,rfl⟩
      rw [← hp7] at H7 H7O
      rw [← hp7]
      have HA5:=(at_of_own HO5.out).1
      have y0:=HA5.ci x0;have y1:=HA5.ci x1
      have hgl:=HA5.lt
      have c7_0:=H7.c0;have c7_1:=H7.c1;have c7_2:=H7.c2;have c7_l:=H7.lt
      clear hW5 HO HB HBS hp7 HA5
      go_quiet (fail)
      rename_i nq
      obtain ⟨W6,hW6⟩:∃ X,X=W5.drewN nq:=⟨_,rfl⟩
      rw [← hW6]
      clear c7_0 c7_1 c7_2 c7_l y0 y1 hgl
      replace H7:At W6 p7 [.string p,.string nm,.int .i64 pk]:=by rw [hW6];exact ⟨H7.lt,H7.all⟩
      have HO6:Hid (W6.ownsRow w3.heap.size 96 3 (.slice (some ⟨g',0,none⟩) m cp) m (cellsA acc)):=by rw [hW6];exact HO5
      have HB6:Hid (Below w3.heap.size w3 W6):=by rw [hW6];exact ybelow_drewN HB5.out _
      have c7_0:=H7.c0;have c7_1:=H7.c1;have c7_2:=H7.c2;have c7_l:=H7.lt
      clear hW6 HO5 HB5
      go_wp2_with (first | (at_builtin;go_must (refine wpList_append_own _ rfl (.tmp 46) (.tmp 48) 39 rfl w3.heap.size 96 i0 (.agg #[.string ByteArray.empty,.string ByteArray.empty,.int .i64 0]) 3 40 Tryz.underlying39 J0.out Y0.out Y1.out Y2.out rfl (by decide) _ _ _ rfl (HO6.out.alloc _) ⟨W6.heap.size,0,none⟩ 1 1 (cellA (p,nm,pk)) rfl rfl (at_news (at_new0 _ _ _)) (cellA_one _) (by simp only [maxLen];omega) (by omega) (Nat.le_trans HB6.out.size (by simp)) ?_);intro v1 w4 ho1 hg1 hn1;clear hn1) | fail)
      have hg2:(W6.alloc (.cells #[.string p,.string nm,.int .i64 pk] 96)).grownBy w4 (Value.slice (some ⟨g',0,none⟩) m cp).ownBlock:=hg1
      have HO2:=HO6.out.alloc (.cells #[.string p,.string nm,.int .i64 pk] 96)
      have HB4:Hid (Below w3.heap.size w3 w4):=(HB6.out.alloc HB6.out.size _).grown hg2 (HB6.out.alloc HB6.out.size _).size (fun g' e=>(HO2.lt g' e).1)
      obtain ⟨R2,cp2,rfl,_⟩:=own_slice ho1
      have HO3:=khide ho1
      clear hg1 hg2 ho1 HO2
      go_roundw
      case rel =>
       refine ⟨k + 1,cp2,m + 1,R2,acc ++ [(p,nm,pk)],by omega,by go_num,rfl,by omega,?_,HV,HP2,?_,HB4⟩
       ·exact khide (by rw [List.length_append,← HM.out];rfl)
       ·rw [cellsA_snoc]
        unfold Hid
        simpa using HO3.out
      case measure=>simp [intOf];omega
     ·have d1:(q1.toList == p.toList)=false:=by rw [seqO];exact decide_eq_false he1
      go_upto_region 8 with fail
      refine kwp_named ?_
      intro W5 hW5
      have H7:At W5 wr.heap.size [.string p,.string nm,.int .i64 pk]:=by rw [hW5];exact at_new0 _ _ _
      have HO5:Hid (W5.ownsRow w3.heap.size 96 3 (.slice (some ⟨g',0,none⟩) m cp) m (cellsA acc)):=by rw [hW5];exact HO.out.alloc _
      have HB5:Hid (Below w3.heap.size w3 W5):=by rw [hW5];exact HB.out.alloc HB.out.size _
      have H7O:Hid (w3.heap.size≤wr.heap.size):=HBS
      obtain ⟨p7,hp7⟩:∃ b,b=wr.heap.size:=⟨_,rfl⟩
      rw [← hp7] at H7 H7O
      rw [← hp7]
      have HA5:=(at_of_own HO5.out).1
      have y0:=HA5.ci x0;have y1:=HA5.ci x1
      have hgl:=HA5.lt
      have c7_0:=H7.c0;have c7_1:=H7.c1;have c7_2:=H7.c2;have c7_l:=H7.lt
      clear hW5 HO HB HBS hp7 HA5
      go_quiet (fail)
      rename_i nq
      obtain ⟨W6,hW6⟩:∃ X,X=W5.drewN nq:=⟨_,rfl⟩
      rw [← hW6]
      clear c7_0 c7_1 c7_2 c7_l y0 y1 hgl
      replace H7:At W6 p7 [.string p,.string nm,.int .i64 pk]:=by rw [hW6];exact ⟨H7.lt,H7.all⟩
      have HO6:Hid (W6.ownsRow w3.heap.size 96 3 (.slice (some ⟨g',0,none⟩) m cp) m (cellsA acc)):=by rw [hW6];exact HO5
      have HB6:Hid (Below w3.heap.size w3 W6):=by rw [hW6];exact ybelow_drewN HB5.out _
      have c7_0:=H7.c0;have c7_1:=H7.c1;have c7_2:=H7.c2;have c7_l:=H7.lt
      clear hW6 HO5 HB5
      go_wp2_with (first | (at_builtin;go_must (refine wpList_append_own _ rfl (.tmp 46) (.tmp 48) 39 rfl w3.heap.size 96 i0 (.agg #[.string ByteArray.empty,.string ByteArray.empty,.int .i64 0]) 3 40 Tryz.underlying39 J0.out Y0.out Y1.out Y2.out rfl (by decide) _ _ _ rfl (HO6.out.alloc _) ⟨W6.heap.size,0,none⟩ 1 1 (cellA (p,nm,pk)) rfl rfl (at_news (at_new0 _ _ _)) (cellA_one _) (by simp only [maxLen];omega) (by omega) (Nat.le_trans HB6.out.size (by simp)) ?_);intro v1 w4 ho1 hg1 hn1;clear hn1) | fail)
      have hg2:(W6.alloc (.cells #[.string p,.string nm,.int .i64 pk] 96)).grownBy w4 (Value.slice (some ⟨g',0,none⟩) m cp).ownBlock:=hg1
      have HO2:=HO6.out.alloc (.cells #[.string p,.string nm,.int .i64 pk] 96)
      have HB4:Hid (Below w3.heap.size w3 w4):=(HB6.out.alloc HB6.out.size _).grown hg2 (HB6.out.alloc HB6.out.size _).size (fun g' e=>(HO2.lt g' e).1)
      obtain ⟨R2,cp2,rfl,_⟩:=own_slice ho1
      have HO3:=khide ho1
      clear hg1 hg2 ho1 HO2
      go_roundw
      case rel =>
       refine ⟨k + 1,cp2,m + 1,R2,acc ++ [(p,nm,pk)],by omega,by go_num,rfl,by omega,?_,HV,HP2,?_,HB4⟩
       ·exact khide (by rw [List.length_append,← HM.out];rfl)
       ·rw [cellsA_snoc]
        unfold Hid
        simpa using HO3.out
      case measure=>simp [intOf];omega
  ·obtain rfl:k=n1:=by omega
   go_wp2
   go_ret2
   have HV:=HV0.out
   rw [List.drop_eq_nil_of_le (by rw [HSL.out];exact Nat.le_refl _)] at HV
   have hv2:res=some acc:=HV.symm
   rw [hv2]
   obtain ⟨A1,c1,e1,h1⟩:=own_slice HO.out
   injection e1 with e2 _ e3
   subst e2;subst e3
   have hm:=HM.out
   subst hm
   exact ⟨R',cp,rfl,h1,own_base HO.out HBW.out.size,Bel.up HBW.out HB⟩
def normQ (q:QL):Option QL:=(combL q.1).bind fun a=>(combL q.2.1).bind fun b=>some (a,b,digs W32 (val W32 q.2.2))
def normQs:List QL→Option (List QL)
 | []=>some []
 | q :: qs=>(normQ q).bind fun r=>(normQs qs).bind fun rs=>some (r :: rs)
theorem normQs_bad:∀ {qs:List QL} {k:Nat} {q:QL},qs[k]? = some q→normQ q=none→normQs qs=none
 | [],k,q,h,_=>by simp at h
 | p :: qs,0,q,h,h0=>by
   simp at h;subst h
   show (normQ p).bind _=none
   rw [h0];rfl
 | p :: qs,k + 1,q,h,h0=>by
   have:=normQs_bad (qs:=qs) (k:=k) (by simpa using h) h0
   show (normQ p).bind (fun r=>(normQs qs).bind _)=none
   rw [this];cases normQ p <;> rfl
theorem normQs_take:∀ {qs:List QL} {k:Nat} {q r:QL} {rs:List QL},qs[k]? = some q→normQ q=some r→normQs (qs.take k)=some rs→normQs (qs.take (k + 1))=some (rs ++ [r])
 | [],k,q,r,rs,h,_,_=>by simp at h
 | p :: qs,0,q,r,rs,h,h0,h1=>by
   simp at h;subst h
   simp [normQs] at h1
   subst h1
   simp [normQs,h0]
 | p :: qs,k + 1,q,r,rs,h,h0,h1=>by
   rw [List.take_succ_cons] at h1 ⊢
   simp only [normQs] at h1 ⊢
   cases hp:normQ p with
   | none=>rw [hp] at h1;cases h1
   | some p' =>
     rw [hp] at h1
     cases ht:normQs (qs.take k) with
     | none=>rw [ht] at h1;cases h1
     | some rs' =>
       rw [ht] at h1
       simp at h1
       subst h1
       have:=normQs_take (qs:=qs) (k:=k) (by simpa using h) h0 ht
       rw [this];rfl
def NormR (W:World) (r:Option (List QL)) (e:Ending) (w':World):Prop:=match r with
 | none=>e = .returned (.tuple #[.agg #[.slice none 0 0],.int .i64 11])∧Bel W w'
 | some l=>∃ g c,e = .returned (.tuple #[.agg #[.slice (some ⟨g,0,none⟩) l.length c],.int .i64 0])∧Qs w' (some ⟨g,0,none⟩) l∧Bel W w'
def FitN (q:QL):Prop:=q.1.length≤12∧q.2.1.length≤12∧PowsQ q.1∧PowsQ q.2.1
theorem norm_any {w:World} {A:Option Addr} {n c:Nat} {qs:List QL} (h:Qs w A qs) (hn:n=qs.length) (hl:n≤1000) (hf:∀ q ∈ qs,FitN q) {res:Option (List QL)} (hres:normQs qs=res) :
 Calls Tryz.prog 21 #[.agg #[.slice A n c]] w (NormR w res):=by
 obtain ⟨W1,hW1⟩:∃ X,X=(w.alloc (.cells #[.slice A n c] 32)).alloc (.cells #[.slice none 0 0] 32):=⟨_,rfl⟩
 have HK:At W1 w.heap.size [.slice A n c]:=by rw [hW1];exact (at_new0 _ _ _).al _
 have HR:At W1 (w.heap.size + 1) [.slice none 0 0]:=by rw [hW1];exact at_new1 _ _ _ _
 have HB:Bel w W1:=by rw [hW1];exact ((Bel.refl w).al _).al _
 have HQ1:Qs W1 A qs:=by rw [hW1];exact (h.al _).al _
 have HN:=khide hn
 have HF:=khide hf
 have HRES:=khide hres
 have hmk:∀ W:World,(Instr.makeSlice 30 (.int .i64 (n:Int)) (.int .i64 (n:Int))).run Tryz.prog W = .ok (.slice (some ⟨W.heap.size,0,none⟩) n n) (W.alloc (.cells (madeCells #[.slice none 0 0,.slice none 0 0,.slice none 0 0] (n * 3)) 44)):=fun W=>make_parts n (by omega) W
 have HW:=khide hW1
 have hk_0:=HK.c0;have hk_l:=HK.lt
 clear hW1 h hn hf hres
 go_enter Tryz.func21,Tryz.ntmps21
 go_upto_region 1 with fail
 rw [← HW.out]
 go_upto_region 2 with fail
 refine kwp_named ?_
 intro W4 hW4
 have HP:RowP W4 W1.heap.size n []:=by rw [hW4];exact made_parts _ _ _
 have HG:Hid (w.heap.size + 1 < W1.heap.size):=HR.lt
 replace HK:At W4 w.heap.size [.slice A n c]:=by rw [hW4];exact HK.al _
 replace HR:At W4 (w.heap.size + 1) [.slice none 0 0]:=by rw [hW4];exact HR.al _
 replace HB:Bel w W4:=by rw [hW4];exact HB.al _
 have HQ4:Qs W4 A qs:=by rw [hW4];exact HQ1.al _
 have hb4:Hid (Below W1.heap.size W1 W4):=by rw [hW4];exact (Below.refl _ _).alloc (Nat.le_refl _) _
 obtain ⟨g,hg⟩:∃ g,g=W1.heap.size:=⟨_,rfl⟩
 rw [← hg] at HP HG
 rw [← hg]
 have HG2:=khide hg
 clear hW4 hg hmk hk_0 hk_l HW HQ4
 have hk_0:=HK.c0;have hk_l:=HK.lt
 go_wp2_with fail
 clear hk_0 hk_l
 go_loopw [18] (fun iv wr=>∃ (k:Nat) (r:List QL),k≤n∧iv = .int .i64 (k:Int)∧r.length=k∧Hid (normQs (qs.take k)=some r)∧RowP wr g n r∧Hid (At wr (w.heap.size + 1) [.slice none 0 0])∧Hid (Below W1.heap.size W1 wr)∧Hid (Bel w wr)) (fun iv _=>n - (intOf iv).toNat)
 case atStart=>exact ⟨0,[],Nat.zero_le _,rfl,rfl,rfl,HP,HR,hb4,HB⟩
 case round =>
  clear HP HK HR HB hb4
  obtain ⟨k,r,hk,rfl,hrk,HV,HP,HR,HB3,HB⟩:=hrel
  have HR':=HR.out
  by_cases hlt:k < n
  ·obtain ⟨q,hq⟩:∃ a,qs[k]? = some a:=⟨qs[k]'(by rw [← HN.out];exact hlt),List.getElem?_eq_getElem _⟩
   obtain ⟨ad,v1,v2,v3,rfl,had,a0,a1,a2,HQ⟩:=(HQ1.up HB3).at_ hq
   obtain ⟨A1,c1,A2,c2,A3,c3,rfl,rfl,rfl,b1,b2,b3,b4,HC1,HC2,HNM,-,-⟩:=HQ.open_
   have hfit:=HF.out q (List.mem_of_getElem? hq)
   have HH:=khide hq
   obtain ⟨l1,l2,ws⟩:=q
   obtain ⟨f1,f2,f3,f4⟩:=hfit
   dsimp only at a0 a1 a2 HC1 HC2 HNM b1 b2 b3 b4 f1 f2 f3 f4
   obtain ⟨n1,hn1⟩:∃ x,x=l1.length:=⟨_,rfl⟩
   obtain ⟨n2,hn2⟩:∃ x,x=l2.length:=⟨_,rfl⟩
   obtain ⟨n3,hn3⟩:∃ x,x=ws.length:=⟨_,rfl⟩
   obtain ⟨v,hv⟩:∃ x,x=val W32 ws:=⟨_,rfl⟩
   rw [← hn1] at a0 b1 f1
   rw [← hn2] at a1 b2 f2
   rw [← hn3] at a2 b3 b4 HNM
   rw [← hv] at HNM
   obtain ⟨ra,hra⟩:∃ x,combL l1=x:=⟨_,rfl⟩
   obtain ⟨rb,hrb⟩:∃ x,combL l2=x:=⟨_,rfl⟩
   have CA:Hid (∀ W:World,Cs W A1 (cellsA l1)→Calls Tryz.prog 45 #[.slice A1 n1 c1] W (AtomsP W ra)):=fun W hs=>combine_any hs hn1 f1 f3 hra
   have CB:Hid (∀ W:World,Cs W A2 (cellsA l2)→Calls Tryz.prog 45 #[.slice A2 n2 c2] W (AtomsP W rb)):=fun W hs=>combine_any hs hn2 f2 f4 hrb
   have HNQ:Hid (normQ (l1,l2,ws)=ra.bind fun a=>rb.bind fun b=>some (a,b,digs W32 v)):=by unfold Hid normQ;rw [hra,hrb,hv]
   have CN:Hid (∀ W:World,Nm W A3 n3 c3 v→Calls Tryz.prog 46 #[.agg #[.slice A3 n3 c3],.agg #[.slice none 0 0]] W (NumR W v)):=fun W hN=>add_h hN (nm_nil W none 0) (by simp) hN.dl
   have k0:(0:Int)≤(k:Int):=by omega
   have k1:(k:Int) < (n:Int):=by omega
   clear hq hra hrb hv hn1 hn2 hn3 f1 f2 f3 f4 b1 b2 b3 b4 HQ
   go_upto_region 5 with fail
   refine kwp_named ?_
   intro W6 hW6
   have HX:At W6 wr.heap.size [.slice A1 n1 c1,.slice A2 n2 c2,.slice A3 n3 c3]:=by rw [hW6];exact at_new0 _ _ _
   replace HC1:Cs W6 A1 (cellsA l1):=by rw [hW6];exact HC1.al _
   replace HC2:Cs W6 A2 (cellsA l2):=by rw [hW6];exact HC2.al _
   replace HNM:Nm W6 A3 n3 c3 v:=by rw [hW6];exact HNM.al _
   have hpx:wr.heap.size ≠ w.heap.size + 1:=Nat.ne_of_gt HR'.lt
   have hgx:g ≠ wr.heap.size:=Nat.ne_of_lt HP.lt
   replace HP:RowP W6 g n r:=by rw [hW6];exact HP.al _
   replace HR':At W6 (w.heap.size + 1) [.slice none 0 0]:=by rw [hW6];exact HR'.al _
   replace HB:Bel w W6:=by rw [hW6];exact HB.out.al _
   replace HB3:Hid (Below W1.heap.size W1 W6):=by rw [hW6];exact HB3.out.alloc HB3.out.size _
   obtain ⟨px,hpx2⟩:∃ x,x=wr.heap.size:=⟨_,rfl⟩
   rw [← hpx2] at HX hgx hpx
   rw [← hpx2]
   clear hW6 hpx2 HR had a0 a1 a2
   have hx_0:=HX.c0;have hx_1:=HX.c1;have hx_2:=HX.c2;have hx_l:=HX.lt
   cases ra with
   | none =>
     have HE:Hid (res=none):=by unfold Hid;rw [← HRES.out];exact normQs_bad HH.out HNQ.out
     go_upto_region 6 with (first | (go_at_call 45;(with_reducible refine (CA.out _ HC1).mono ?_);rintro e w7 ⟨rfl,hb7⟩;clear hx_0 hx_1 hx_2 hx_l;replace HX:=HX.up hb7.hid;replace HR':=HR'.up hb7.hid;replace HB:=HB.up hb7.hid;replace HB3:=khide (HB3.out.trans (hb7.hid.out.mono HB3.out.size));replace HP:=HP.up hb7.hid;replace HNM:=HNM.up hb7.hid;replace HC2:=HC2.up hb7.hid;have hx_0:=HX.c0;have hx_1:=HX.c1;have hx_2:=HX.c2;have hx_l:=HX.lt) | fail)
     cases rb with
     | none =>
       go_upto_region 7 with (first | (go_at_call 45;(with_reducible refine (CB.out _ HC2).mono ?_);rintro e w8 ⟨rfl,hb7⟩;clear hx_0 hx_1 hx_2 hx_l;replace HX:=HX.up hb7.hid;replace HR':=HR'.up hb7.hid;replace HB:=HB.up hb7.hid;replace HB3:=khide (HB3.out.trans (hb7.hid.out.mono HB3.out.size));replace HP:=HP.up hb7.hid;replace HNM:=HNM.up hb7.hid;  have hx_0:=HX.c0;have hx_1:=HX.c1;have hx_2:=HX.c2;have hx_l:=HX.lt) | fail)
       have hr_0:=HR'.c0;have hr_f0:=HR'.f0;have hr_l:=HR'.lt
       go_wp2_with fail
       (try simp only [Exit.inBlock,Exit.then])
       refine bodyPost_ret (v:=.tuple #[.agg #[.slice none 0 0],.int .i64 11]) (by simp [results,Tryz.results21,go_sem,hr_0,hr_l]) rfl ?_
       rw [HE.out]
       exact ⟨rfl,Below.setCell HB (Nat.le_succ _) _⟩
     | some b =>
       go_upto_region 7 with (first | (go_at_call 45;(with_reducible refine (CB.out _ HC2).mono ?_);rintro e w8 ⟨B2,d2,rfl,-,HO2,hb7⟩;clear hx_0 hx_1 hx_2 hx_l;replace HX:=HX.up hb7.hid;replace HR':=HR'.up hb7.hid;replace HB:=HB.up hb7.hid;replace HB3:=khide (HB3.out.trans (hb7.hid.out.mono HB3.out.size));replace HP:=HP.up hb7.hid;replace HNM:=HNM.up hb7.hid;  have hx_0:=HX.c0;have hx_1:=HX.c1;have hx_2:=HX.c2;have hx_l:=HX.lt) | fail)
       have hr_0:=HR'.c0;have hr_f0:=HR'.f0;have hr_l:=HR'.lt
       go_wp2_with fail
       (try simp only [Exit.inBlock,Exit.then])
       refine bodyPost_ret (v:=.tuple #[.agg #[.slice none 0 0],.int .i64 11]) (by simp [results,Tryz.results21,go_sem,hr_0,hr_l]) rfl ?_
       rw [HE.out]
       exact ⟨rfl,Below.setCell HB (Nat.le_succ _) _⟩
   | some a =>
     go_upto_region 6 with (first | (go_at_call 45;(with_reducible refine (CA.out _ HC1).mono ?_);rintro e w7 ⟨B1,d1,rfl,-,HO1,hb7⟩;clear hx_0 hx_1 hx_2 hx_l;replace HX:=HX.up hb7.hid;replace HR':=HR'.up hb7.hid;replace HB:=HB.up hb7.hid;replace HB3:=khide (HB3.out.trans (hb7.hid.out.mono HB3.out.size));replace HP:=HP.up hb7.hid;replace HNM:=HNM.up hb7.hid;replace HC2:=HC2.up hb7.hid;have hx_0:=HX.c0;have hx_1:=HX.c1;have hx_2:=HX.c2;have hx_l:=HX.lt) | fail)
     have h1:=own_cap HO1.out
     replace HO1:Cs w7 B1 (cellsA a):=Cs.of_own HO1.out
     cases rb with
     | none =>
       have HE:Hid (res=none):=by unfold Hid;rw [← HRES.out];exact normQs_bad HH.out HNQ.out
       go_upto_region 7 with (first | (go_at_call 45;(with_reducible refine (CB.out _ HC2).mono ?_);rintro e w8 ⟨rfl,hb7⟩;clear hx_0 hx_1 hx_2 hx_l;replace HX:=HX.up hb7.hid;replace HR':=HR'.up hb7.hid;replace HB:=HB.up hb7.hid;replace HB3:=khide (HB3.out.trans (hb7.hid.out.mono HB3.out.size));replace HP:=HP.up hb7.hid;replace HNM:=HNM.up hb7.hid;  have hx_0:=HX.c0;have hx_1:=HX.c1;have hx_2:=HX.c2;have hx_l:=HX.lt) | fail)
       have hr_0:=HR'.c0;have hr_f0:=HR'.f0;have hr_l:=HR'.lt
       go_wp2_with fail
       (try simp only [Exit.inBlock,Exit.then])
       refine bodyPost_ret (v:=.tuple #[.agg #[.slice none 0 0],.int .i64 11]) (by simp [results,Tryz.results21,go_sem,hr_0,hr_l]) rfl ?_
       rw [HE.out]
       exact ⟨rfl,Below.setCell HB (Nat.le_succ _) _⟩
     | some b =>
       have HV2:Hid (normQs (qs.take (k + 1))=some (r ++ [(a,b,digs W32 v)])):=normQs_take HH.out HNQ.out HV.out
       go_upto_region 7 with (first | (go_at_call 45;(with_reducible refine (CB.out _ HC2).mono ?_);rintro e w8 ⟨B2,d2,rfl,-,HO2,hb7⟩;clear hx_0 hx_1 hx_2 hx_l;replace HX:=HX.up hb7.hid;replace HR':=HR'.up hb7.hid;replace HB:=HB.up hb7.hid;replace HB3:=khide (HB3.out.trans (hb7.hid.out.mono HB3.out.size));replace HP:=HP.up hb7.hid;replace HNM:=HNM.up hb7.hid;  have hx_0:=HX.c0;have hx_1:=HX.c1;have hx_2:=HX.c2;have hx_l:=HX.lt) | fail)
       have h2:=own_cap HO2.out
       replace HO2:Cs w8 B2 (cellsA b):=Cs.of_own HO2.out
       replace HO1:Cs w8 B1 (cellsA a):=HO1.up hb7.hid
       have ha1:a.length≤1000000 ∨ True:=Or.inr trivial
       clear ha1
       go_upto_region 9 with fail
       have gl:=HP.lt
       obtain ⟨z0,f0⟩:=HP.zero hrk hlt 0 (by omega)
       obtain ⟨z1,f1⟩:=HP.zero hrk hlt 1 (by omega)
       obtain ⟨z2,f2⟩:=HP.zero hrk hlt 2 (by omega)
       simp only [Nat.add_zero] at z0 f0
       go_upto_region 10 with (first | (go_at_call 46;(with_reducible refine (CN.out _ HNM).mono ?_);rintro e w9 ⟨B3,d3,rfl,HN9,hb9⟩;clear hx_0 hx_1 hx_2 hx_l z0 z1 z2 f0 f1 f2 gl;replace HR':=HR'.up hb9;replace HB:=HB.up hb9;replace HB3:=khide (HB3.out.trans (hb9.out.mono HB3.out.size));replace HP:=HP.up hb9;replace HO1:=HO1.up hb9;replace HO2:=HO2.up hb9;have gl:=HP.lt;obtain ⟨z0,f0⟩:=HP.zero hrk hlt 0 (by omega);obtain ⟨z1,f1⟩:=HP.zero hrk hlt 1 (by omega);obtain ⟨z2,f2⟩:=HP.zero hrk hlt 2 (by omega);simp only [Nat.add_zero] at z0 f0) | fail)
       have HQ9:Q1 w9 (.slice B1 a.length d1) (.slice B2 b.length d2) (.slice B3 (dl v) d3) (a,b,digs W32 v):=q1_mk HO1 h1 HO2 h2 HN9
       have HP2:=HP.put hrk hlt HQ9
       have hgr:g ≠ w.heap.size + 1:=by have:=HG.out;omega
       have HR2:=((HR'.far hgr (i:=k * 3) (.slice B1 a.length d1)).far hgr (i:=k * 3 + 1) (.slice B2 b.length d2)).far hgr (i:=k * 3 + 2) (.slice B3 (dl v) d3)
       have HB2:Bel w (((w9.setCell ⟨g,k * 3,none⟩ (.slice B1 a.length d1)).setCell ⟨g,k * 3 + 1,none⟩ (.slice B2 b.length d2)).setCell ⟨g,k * 3 + 2,none⟩ (.slice B3 (dl v) d3)):=by
        have hwg:w.heap.size≤g:=by have:=HG.out;omega
        exact Below.setCell (Below.setCell (Below.setCell HB hwg _) hwg _) hwg _
       have HB4:Hid (Below W1.heap.size W1 (((w9.setCell ⟨g,k * 3,none⟩ (.slice B1 a.length d1)).setCell ⟨g,k * 3 + 1,none⟩ (.slice B2 b.length d2)).setCell ⟨g,k * 3 + 2,none⟩ (.slice B3 (dl v) d3))):=by
        have hwg:W1.heap.size≤g:=by rw [HG2.out];exact Nat.le_refl _
        exact Below.setCell (Below.setCell (Below.setCell HB3.out hwg _) hwg _) hwg _
       have HP3:=khide HP2;have HR3:=khide HR2;have HB5:=khide HB2
       clear HP2 HR2 HB2 HP HR' HB HB3 HQ9
       go_wp2_with fail
       go_roundw
       case rel=>exact ⟨k + 1,r ++ [(a,b,digs W32 v)],by omega,by go_num,by rw [List.length_append,hrk];rfl,HV2,HP3.out,HR3,HB4,HB5⟩
       case measure=>simp [intOf];omega
  ·obtain rfl:k=n:=by omega
   have HE:Hid (res=some r):=by
    have h9:=HV.out
    rw [List.take_of_length_le (by rw [← HN.out];exact Nat.le_refl _)] at h9
    unfold Hid;rw [← HRES.out];exact h9
   have hr_0:=HR'.c0;have hr_f0:=HR'.f0;have hr_l:=HR'.lt
   go_wp2_with fail
   (try simp only [Exit.inBlock,Exit.then])
   refine bodyPost_ret (v:=.tuple #[.agg #[.slice (some ⟨g,0,none⟩) k k],.int .i64 0]) (by simp [results,Tryz.results21,go_sem,hr_0,hr_l]) rfl ?_
   rw [HE.out]
   refine ⟨g,k,by rw [hrk],?_,Below.setCell HB.out (Nat.le_succ _) _⟩
   exact (HP.far (by have:=HG.out;omega) HR'.c0 _).rq
end Go.Proofs.YtfflmmbhpchloaaGreatDoor
end
section
open Go.RowKit
open Go.Proofs.YtfflmmbhpchloaaGreatDoor.V
namespace Go.Proofs.YtfflmmbhpchloaaGreatDoor
theorem mulR_at {a:V8} {k:Int} (h:V8.mulB a k=true) {i:Nat} (hi:i < 8):(V8.mulR a k).at_ i=a.at_ i * k:=by
 unfold V8.mulB at h
 simp only [Bool.and_eq_true] at h
 obtain ⟨h1,h2⟩:=h
 unfold V8.mulR
 by_cases hf:fitB k=true
 ·rw [if_pos hf] at h2
  rw [if_pos ⟨h1,hf,h2⟩,V8.at_mul hi]
 ·rw [if_neg hf] at h2
  obtain rfl:=of_decide_eq_true h2
  rw [if_neg (fun h3=>hf h3.2.1),V8.at_z hi]
  simp
theorem sg_at {a:V8} (h:a.ok=true) {s:Int} (hs:s=1 ∨ s = -1) {i:Nat} (hi:i < 8):(V8.mulR a s).at_ i=a.at_ i * s:=by
 refine mulR_at ?_ hi
 unfold V8.mulB
 have hf:fitB s=true:=by rcases hs with rfl | rfl <;> decide
 rw [h,if_pos hf,Bool.true_and,V8.ok_iff]
 intro k hk
 have h1:=V8.ok_iff.1 h k hk
 rw [V8.at_mul hk]
 rcases hs with rfl | rfl <;> omega
def vOf (T:Tb) (i:Nat) (s:ByteArray):Int:=match lookL T.ents s with
 | none=>0
 | some m=>m.vec.at_ i
def sumA (T:Tb) (i:Nat):List AL→Int
 | []=>0
 | a :: l=>vOf T i a.2.1 * a.2.2 + sumA T i l
def sumS (T:Tb) (i:Nat):List (AL × Int)→Int
 | []=>0
 | x :: l=>vOf T i x.1.2.1 * x.1.2.2 * x.2 + sumS T i l
theorem vecGo_at {T:Tb} {i:Nat} (hi:i < 8):∀ {l:List (AL × Int)} {v r:V8},(∀ x ∈ l,x.2=1 ∨ x.2 = -1)→T.vecGo l v=some r→r.at_ i=v.at_ i + sumS T i l
 | [],v,r,_,h=>by injection h with h;rw [← h];simp [sumS]
 | x :: l,v,r,hs,h=>by
   unfold Tb.vecGo at h
   cases hm:lookL T.ents x.1.2.1 with
   | none=>rw [hm] at h;cases h
   | some m =>
     rw [hm] at h
     dsimp only at h
     split at h
     ·rename_i h1
      split at h
      ·rename_i h2
       obtain ⟨_,_,h3,_⟩:=V8.addB_true h2
       have ih:=vecGo_at hi (fun y hy=>hs y (List.mem_cons_of_mem _ hy)) h
       rw [ih,h3,V8.at_add hi,sg_at (V8.mulR_ok _ _) (hs x List.mem_cons_self) hi,mulR_at h1 hi]
       have e:vOf T i x.1.2.1=m.vec.at_ i:=by unfold vOf;rw [hm]
       show v.at_ i + m.vec.at_ i * x.1.2.2 * x.2 + sumS T i l=v.at_ i + (vOf T i x.1.2.1 * x.1.2.2 * x.2 + sumS T i l)
       rw [e];omega
      ·cases h
     ·cases h
theorem sumS_app {T:Tb} {i:Nat}:∀ (l m:List (AL × Int)),sumS T i (l ++ m)=sumS T i l + sumS T i m
 | [],m=>by simp [sumS]
 | x :: l,m=>by
   show vOf T i x.1.2.1 * x.1.2.2 * x.2 + sumS T i (l ++ m)=vOf T i x.1.2.1 * x.1.2.2 * x.2 + sumS T i l + sumS T i m
   rw [sumS_app l m];omega
theorem sumS_pos {T:Tb} {i:Nat}:∀ l:List AL,sumS T i (l.map fun a=>(a,1))=sumA T i l
 | []=>rfl
 | a :: l=>by rw [List.map_cons];unfold sumS sumA;rw [sumS_pos l];simp
theorem sumS_neg {T:Tb} {i:Nat}:∀ l:List AL,sumS T i (l.map fun a=>(a,-1)) = - sumA T i l
 | []=>rfl
 | a :: l=>by rw [List.map_cons];unfold sumS sumA;rw [sumS_neg l];simp;omega
theorem vec_at {T:Tb} {i:Nat} (hi:i < 8) {l l':List AL} {r:V8} (h:T.vec (l,l')=some r):r.at_ i=sumA T i l - sumA T i l':=by
 have h1:=vecGo_at hi (fun x hx=>by
  unfold sgA at hx
  rcases List.mem_append.1 hx with hx | hx
  ·obtain ⟨a,_,rfl⟩:=List.mem_map.1 hx;exact .inl rfl
  ·obtain ⟨a,_,rfl⟩:=List.mem_map.1 hx;exact .inr rfl) h
 rw [h1,V8.at_z hi]
 unfold sgA
 rw [sumS_app,sumS_pos,sumS_neg]
 show 0 + (sumA T i l + -sumA T i l')=_
 omega
theorem sumA_app {T:Tb} {i:Nat}:∀ (l m:List AL),sumA T i (l ++ m)=sumA T i l + sumA T i m
 | [],m=>by simp [sumA]
 | x :: l,m=>by
   show vOf T i x.2.1 * x.2.2 + sumA T i (l ++ m)=vOf T i x.2.1 * x.2.2 + sumA T i l + sumA T i m
   rw [sumA_app l m];omega
theorem sumA_perm {T:Tb} {i:Nat} {l m:List AL} (h:l.Perm m):sumA T i l=sumA T i m:=by
 induction h with
 | nil=>rfl
 | cons x _ ih=>unfold sumA;rw [ih]
 | swap x y l=>unfold sumA;unfold sumA;omega
 | trans _ _ h1 h2=>exact h1.trans h2
theorem sum_addQ {T:Tb} {i:Nat} {acc acc':List AL} {a:AL} (h:addQ acc a=some acc'):sumA T i acc'=sumA T i acc + vOf T i a.2.1 * a.2.2:=by
 rcases list_last acc with rfl | ⟨l,q,rfl⟩
 ·rw [addQ_nil] at h
  injection h with h
  rw [← h];simp [sumA]
 ·by_cases hq:q.1=a.1∧q.2.1=a.2.1
  ·by_cases hp:15 < q.2.2 + a.2.2
   ·rw [addQ_long hq hp] at h;cases h
   ·rw [addQ_sum hq hp] at h
    injection h with h
    rw [← h,sumA_app,sumA_app]
    simp only [sumA]
    rw [← hq.2,Int.mul_add]
    omega
  ·rw [addQ_ne hq] at h
   injection h with h
   rw [← h,sumA_app]
   simp [sumA]
theorem sum_foldQ {T:Tb} {i:Nat}:∀ {s acc r:List AL},foldQ acc s=some r→sumA T i r=sumA T i acc + sumA T i s
 | [],acc,r,h=>by injection h with h;rw [← h];simp [sumA]
 | a :: s,acc,r,h=>by
   rw [foldQ] at h
   cases ha:addQ acc a with
   | none=>rw [ha] at h;cases h
   | some acc' =>
     rw [ha] at h
     rw [sum_foldQ h,sum_addQ ha]
     unfold sumA
     cases s <;> (simp only [sumA];omega)
theorem sum_combL {T:Tb} {i:Nat} {l r:List AL} (h:combL l=some r):sumA T i r=sumA T i l:=by
 unfold combL at h
 rw [sum_foldQ h,sumA_perm (sortQ_facts l).1]
 simp [sumA]
theorem vec_norm {T:Tb} {q r:QL} (h:normQ q=some r) {u v:V8} (hu:T.vec (q.1,q.2.1)=some u) (hv:T.vec (r.1,r.2.1)=some v):u=v:=by
 unfold normQ at h
 cases ha:combL q.1 with
 | none=>rw [ha] at h;cases h
 | some a =>
   cases hb:combL q.2.1 with
   | none=>rw [ha,hb] at h;cases h
   | some b =>
     rw [ha,hb] at h
     injection h with h
     subst h
     exact V8.ext_at fun k hk=>by rw [vec_at hk hu,vec_at hk hv,sum_combL ha,sum_combL hb]
end Go.Proofs.YtfflmmbhpchloaaGreatDoor
end
