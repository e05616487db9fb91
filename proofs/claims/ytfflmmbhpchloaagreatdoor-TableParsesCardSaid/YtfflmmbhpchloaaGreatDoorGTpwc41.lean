/- Each theorem here says its own conditions. -/
import Derived.Test.YtfflmmbhpchloaaGreatDoorGTpwc40
import Derived.Lib.SliceRun
set_option maxRecDepth 100000
set_option maxHeartbeats 16000000
section
open Go.RowKit
namespace Go.Proofs.YtfflmmbhpchloaaGreatDoor.E
def tableOf (s:ByteArray):List TRow × Nat × Nat:=if 65536 < s.size then ([],0,11) else rowsOf 0 0 (pieces 10 s)
def ParseR (W:World) (res:List TRow × Nat × Nat) (e:Ending) (w':World):Prop :=
 ∃ A c,e = .returned (.tuple #[.slice A res.1.length c,.int .i64 (res.2.1:Int),.int .i64 (res.2.2:Int)])∧(A=none→c=0)∧Rs w' A res.1∧Hid (Below W.heap.size W w')
theorem parse_no {W w':World} {n x:Nat} (hb:Hid (Below W.heap.size W w')):ParseR W ([],n,x) (.returned (.tuple #[.slice none 0 0,.int .i64 (n:Int),.int .i64 (x:Int)])) w' :=
 ⟨none,0,rfl,fun _=>rfl,(fun h=>absurd h (by simp)),hb⟩
theorem parse_yes {W w':World} {base:Nat} {A:Option Addr} {c:Nat} {rs:List TRow} {vs:List Value} (h:RB base w' (.slice A rs.length c) rs vs) (hb:Hid (Below W.heap.size W w')):ParseR W (rs,0,0) (.returned (.tuple #[.slice A rs.length c,.int .i64 0,.int .i64 0])) w':=by
 refine ⟨A,c,rfl,fun hA=>?_,h.reads,hb⟩
 subst hA
 rcases h.own.2 with ⟨h0,_⟩ | ⟨g,cap,cur,h0,_⟩
 ·injection h0
 ·injection h0 with h1;cases h1
theorem ysum {l:List Nat} {x:Nat} (h:x ∈ l):x≤l.sum:=by
 induction l with
 | nil=>cases h
 | cons a l ih =>
   rcases List.mem_cons.1 h with rfl | h
   ·simp
   ·have:=ih h;simp;omega
theorem piece_size {c:UInt8} {s x:ByteArray} (h:x ∈ pieces c s):x.size≤s.size:=by
 have h1:=cutBy_total (a:=c) s.data.toList
 have h2:x.data.toList ∈ cutBy c s.data.toList:=by rw [← pieces_data];exact List.mem_map_of_mem h
 have h3:x.data.toList.length≤((cutBy c s.data.toList).map List.length).sum:=ysum (List.mem_map_of_mem h2)
 rw [Lib.size_eq,Lib.size_eq]
 omega
theorem infoRow:(Tryz.prog.info? 72).map (fun i=>(i.zero,i.size,i.bytes))=some (some (.agg #[.int .i64 0,.slice none 0 0]),2,32):=by kernel_rfl
theorem parse_any {s:ByteArray} {res:List TRow × Nat × Nat} (hr:tableOf s=res) (W:World):Calls Tryz.prog 27 #[.string s] W (ParseR W res):=by
 by_cases h0:65536 < s.size
 ·have d:decide ((65536:Int) < (s.size:Int))=true:=decide_eq_true (by omega)
  have HN:Hid (ParseR W res (.returned (.tuple #[.slice none 0 0,.int .i64 0,.int .i64 11])) W):=by
   rw [← hr];unfold tableOf;rw [if_pos h0]
   exact parse_no (Below.refl _ _)
  clear h0 hr
  go_enter Tryz.func27,Tryz.ntmps27
  go_wp2
  go_ret3
  exact HN.out
 ·have d:decide ((65536:Int) < (s.size:Int))=false:=decide_eq_false (by omega)
  obtain ⟨ls,hls⟩:∃ ls,pieces 10 s=ls:=⟨_,rfl⟩
  have HSZ:Hid (∀ x ∈ ls,x.size≤65536):=fun x hx=>by rw [← hls] at hx;have:=piece_size hx;omega
  have HR:Hid (res=comb [] (rowsOf 0 0 ls)):=by rw [comb_start,← hr,← hls];unfold tableOf;rw [if_neg h0];rfl
  obtain ⟨n,hn⟩:∃ n,ls.length=n:=⟨_,rfl⟩
  have hn2:n≤65537:=by
   have:=pieces_len (c:=10) (s:=s)
   rw [hls,hn] at this;omega
  have CS:Hid (∀ V,Calls Tryz.prog 53 #[.string s,.string ⟨#[10]⟩] V fun e w'=>∃ ad c,e = .returned (.slice (some ad) n c)∧Ss w' (some ad) ls∧Hid (Below V.heap.size V w')):=fun V=>(ssplit_c hls V (show s.size≤1000000 by omega)).mono fun e w' ⟨ad,c,h1,_,h3,h4⟩=>⟨ad,c,by rw [h1,hn],h3,h4⟩
  have HN:=ehide hn
  obtain ⟨i0,hi,hz0,hz1,hz2⟩:=info_parts infoRow
  have J0:=ehide hi;have Y0:=ehide hz0;have Y1:=ehide hz1;have Y2:=ehide hz2
  clear hn hls hr h0 hi hz0 hz1 hz2
  go_enter Tryz.func27,Tryz.ntmps27
  go_wp2_with (first | (go_at_call 53;(with_reducible refine (CS.out _).mono ?_);rintro e w1 ⟨ad,c,rfl,hss,hbk⟩) | fail)
  go_loopw [5,16] (fun lv iv wr=>∃ (k:Nat) (acc:List TRow) (vs:List Value) (A:Option Addr) (cp:Nat),k≤n∧iv = .int .i64 (k:Int)∧lv = .slice A acc.length cp∧acc.length≤2000 ∧
   Hid (res=comb acc (rowsOf k acc.length (ls.drop k)))∧Hid (RB w1.heap.size wr (.slice A acc.length cp) acc vs)∧Hid (Below w1.heap.size w1 wr)) (fun _ iv _=>n - (intOf iv).toNat)
  case atStart=>exact ⟨0,[],[],none,0,Nat.zero_le _,rfl,rfl,by decide,HR,RB.nil,Below.refl _ _⟩
  case round =>
   obtain ⟨k,acc,vs,A,cp,hk,rfl,rfl,hacc,hres,hrb,hbw⟩:=hrel
   have HWB:Hid (Below W.heap.size W wr):=hbk.out.trans (hbw.out.mono hbk.out.size)
   by_cases hlt:k < n
   ·have hx:k < ls.length:=by rw [HN.out];exact hlt
    obtain ⟨ad2,e2,hb,hcell⟩:=(hss.up hbw).out.at_ hx
    obtain rfl:ad=ad2:=by injection e2
    obtain ⟨x,hxe⟩:∃ x,x=ls[k]:=⟨_,rfl⟩
    have hdr:ls.drop k=x :: ls.drop (k + 1):=by rw [hxe];exact List.drop_eq_getElem_cons hx
    have hsz:x.size≤65536:=HSZ.out x (by rw [hxe];exact List.getElem_mem hx)
    rw [← hxe] at hcell
    rw [hdr] at hres
    obtain ⟨ws,hws⟩:∃ ws,wordsB x=ws:=⟨_,rfl⟩
    obtain ⟨b,hb2⟩:∃ b,plainB x=b:=⟨_,rfl⟩
    have CW:Hid (∀ V,Calls Tryz.prog 54 #[.string x] V fun e w'=>∃ A c,e = .returned (.slice A ws.length c)∧(A=none→c=0)∧Hid (w'.ownsRow V.heap.size 9 1 (.slice A ws.length c) ws.length (ws.map Value.string))∧Hid (Below V.heap.size V w')):=fun V=>by
     have h1:=wordsOf_any (s:=x) (by omega) V
     unfold WordsR at h1
     rwa [hws] at h1
    have CP:Hid (∀ V,Calls Tryz.prog 55 #[.string x] V fun e w'=>e = .returned (.bool b)∧V=w'):=fun V=>isPlain_any hb2 (by omega) V
    have w1':IntKind.i64.wrap ((k:Int) + 1)=(k:Int) + 1:=IntWalk.i64_in _ (by omega)
    obtain ⟨m,hm⟩:∃ m,ws.length=m:=⟨_,rfl⟩
    have HM:=ehide hm
    have CW2:Hid (∀ V,Calls Tryz.prog 54 #[.string x] V fun e w'=>∃ A c,e = .returned (.slice A m c)∧(A=none→c=0)∧Hid (w'.ownsRow V.heap.size 9 1 (.slice A m c) m (ws.map Value.string))∧Hid (Below V.heap.size V w')):=fun V=>by
     have h1:=CW.out V
     rwa [hm] at h1
    clear CW
    have HBAD:Hid (∀ V,(b=false ∨ 24 < m)→Hid (Below W.heap.size W V)→ParseR W res (.returned (.tuple #[.slice none 0 0,.int .i64 ((k:Int) + 1),.int .i64 2])) V):=fun V h1 h2=>by
     rw [hres.out,comb_bad (by rw [hb2,hws,hm];exact h1)]
     exact parse_no (n:=k + 1) (x:=2) h2
    have HFULL:Hid (∀ V,b=true → ¬ 24 < m → ¬ m=0→acc.length=2000→Hid (Below W.heap.size W V)→ParseR W res (.returned (.tuple #[.slice none 0 0,.int .i64 ((k:Int) + 1),.int .i64 11])) V):=fun V h1 h2 h3 h4 h5=>by
     rw [hres.out,h4,comb_full (by rw [hb2,h1]) (by rw [hws,hm];omega) (by rw [hws];intro e;rw [e] at hm;exact h3 hm.symm)]
     exact parse_no (n:=k + 1) (x:=11) h5
    have HNONE:Hid (b=true→m=0→res=comb acc (rowsOf (k + 1) acc.length (ls.drop (k + 1)))):=fun h1 h2=>by
     rw [hres.out,comb_none (by rw [hb2,h1]) (by rw [hws];exact List.eq_nil_of_length_eq_zero (by rw [hm,h2]))]
    have HMORE:Hid (b=true → ¬ 24 < m → ¬ m=0 → ¬ acc.length=2000→res=comb (acc ++ [(k + 1,ws)]) (rowsOf (k + 1) (acc.length + 1) (ls.drop (k + 1)))):=fun h1 h2 h3 h4=>by
     rw [hres.out,comb_more (by rw [hb2,h1]) (by rw [hws,hm];omega) (by rw [hws];intro e;rw [e] at hm;exact h3 hm.symm) h4,hws]
    clear hxe hdr hx hres hws hb2 hm e2
    cases b
    ·go_wp2_with (first | (go_at_call 54;(with_reducible refine (CW2.out _).mono ?_);rintro e w2 ⟨A2,c2,rfl,hA2,how,hbk2⟩) | (go_at_call 55;(with_reducible refine (CP.out _).mono ?_);rintro e w3 ⟨rfl,rfl⟩) | fail)
     go_ret3
     exact HBAD.out _ (.inl (by first | rfl | trivial)) (HWB.out.trans (hbk2.out.mono HWB.out.size))
    ·by_cases h24:24 < m
     ·have d24:decide ((24:Int) < (m:Int))=true:=decide_eq_true (by omega)
      have HH:=ehide h24
      clear h24
      go_wp2_with (first | (go_at_call 54;(with_reducible refine (CW2.out _).mono ?_);rintro e w2 ⟨A2,c2,rfl,hA2,how,hbk2⟩) | (go_at_call 55;(with_reducible refine (CP.out _).mono ?_);rintro e w3 ⟨rfl,rfl⟩) | fail)
      go_ret3
      exact HBAD.out _ (.inr HH.out) (HWB.out.trans (hbk2.out.mono HWB.out.size))
     ·have d24:decide ((24:Int) < (m:Int))=false:=decide_eq_false (by omega)
      have H24:=ehide h24
      clear h24
      by_cases hz:m=0
      ·have HNZ:=ehide (HNONE.out (by first | rfl | trivial) hz)
       subst hz
       go_wp2_with (first | (go_at_call 54;(with_reducible refine (CW2.out _).mono ?_);rintro e w2 ⟨A2,c2,rfl,hA2,how,hbk2⟩) | (go_at_call 55;(with_reducible refine (CP.out _).mono ?_);rintro e w3 ⟨rfl,rfl⟩) | fail)
       go_roundw
       case rel=>exact ⟨k + 1,acc,vs,A,cp,by omega,by go_num,rfl,hacc,HNZ.out,hrb.out.below hbk2.out,hbw.out.trans (hbk2.out.mono hbw.out.size)⟩
       case measure=>simp [intOf];omega
      ·have HZ:=ehide hz
       have dz:((m:Int) == 0)=false:=by rw [beq_eq_false_iff_ne];omega
       clear hz
       by_cases hq:acc.length=2000
       ·have dq:((acc.length:Int) == 2000)=true:=by rw [hq];rfl
        have HQ:=ehide hq
        clear hq
        go_wp2_with (first | (go_at_call 54;(with_reducible refine (CW2.out _).mono ?_);rintro e w2 ⟨A2,c2,rfl,hA2,how,hbk2⟩) | (go_at_call 55;(with_reducible refine (CP.out _).mono ?_);rintro e w3 ⟨rfl,rfl⟩) | fail)
        go_ret3
        exact HFULL.out _ (by first | rfl | trivial) H24.out HZ.out HQ.out (HWB.out.trans (hbk2.out.mono HWB.out.size))
       ·have dq:((acc.length:Int) == 2000)=false:=by rw [beq_eq_false_iff_ne];omega
        have HMR:=ehide (HMORE.out (by first | rfl | trivial) H24.out HZ.out hq)
        have hacc2:acc.length + 1≤2000:=by omega
        have Q7:Hid (acc.length + 1≤maxLen):=by unfold Hid maxLen;omega
        have Q8:Hid ((acc.length + 1) * 32≤140737488355328):=by unfold Hid;omega
        have Q6:Hid (∀ (A:Option Addr) (c:Nat),∀ u ∈ [Value.int .i64 ((k:Int) + 1),Value.slice A m c],u.oneCell'=true):=by intro A c u hu;simp at hu;rcases hu with rfl | rfl <;> rfl
        clear hq
        go_wp2_with (first | (go_at_call 54;(with_reducible refine (CW2.out _).mono ?_);rintro e w2 ⟨A2,c2,rfl,hA2,how,hbk2⟩;have HR2:=ehide (hrb.out.below hbk2.out);have HB2:Hid (Below w1.heap.size w1 w2):=hbw.out.trans (hbk2.out.mono hbw.out.size);have HZ2:=ehide (HB2.out.size)) | (go_at_call 55;(with_reducible refine (CP.out _).mono ?_);rintro e w3 ⟨rfl,rfl⟩) | (at_builtin;refine wpList_append_own_at _ rfl (.tmp 44) (.tmp 48) 70 rfl w1.heap.size 72 i0 (.agg #[.int .i64 0,.slice none 0 0]) 2 32 Tryz.underlying70 J0.out Y0.out Y1.out Y2.out rfl (by decide) (.slice A acc.length cp) _ _ rfl (HR2.out.own.alloc _) ⟨w2.heap.size,0,none⟩ 1 1 [.int .i64 ((k:Int) + 1),.slice A2 m c2] rfl rfl (cell_two_new w2 _ _ _) (Q6.out _ _) Q7.out Q8.out (Nat.le_trans HZ2.out (Nat.le_of_lt (by rw [World.size_alloc];exact Nat.lt_succ_self _))) ?_;intro v1 w4 ho1 hg1 hn1 ha1;clear hn1 ha1;obtain ⟨g1,cap1,rfl⟩:=ownsRow_succ ho1;have HO1:=ehide ho1;have HG1:=ehide hg1;clear ho1 hg1) | fail)
        go_roundw
        case rel =>
         refine ⟨k + 1,acc ++ [(k + 1,ws)],vs ++ [.slice A2 m c2],some ⟨g1,0,none⟩,cap1,by omega,by go_num,by rw [List.length_append];rfl,by rw [List.length_append];exact hacc2,by rw [List.length_append];exact HMR,?_,?_⟩
         ·have h9:=(HR2.out.alloc _).more (r:=(k + 1,ws)) (x:=.slice A2 m c2) ⟨⟨A2,c2,by rw [HM.out],hA2⟩,by rw [HM.out];exact own_less (how.out.alloc _) hbw.out.size⟩ HO1.out HG1.out
          unfold Hid
          rw [List.length_append]
          exact h9
         ·exact (HB2.out.alloc HZ2.out _).grown HG1.out (Nat.le_trans HZ2.out (by simp)) (fun g e=>(HR2.out.own.lt g e).1)
        case measure=>simp [intOf];omega
   ·obtain rfl:k=n:=by omega
    have HE:Hid (ParseR W res (.returned (.tuple #[.slice A acc.length cp,.int .i64 0,.int .i64 0])) wr):=by
     rw [hres.out,List.drop_of_length_le (by rw [HN.out];exact Nat.le_refl _),comb_nil]
     exact parse_yes hrb.out HWB
    go_wp2
    go_ret3
    exact HE.out
end Go.Proofs.YtfflmmbhpchloaaGreatDoor.E
end
section
open Go.RowKit
open Go.Proofs.YtfflmmbhpchloaaGreatDoor.V
namespace Go.Proofs.YtfflmmbhpchloaaGreatDoor
theorem rd_own {w:World} {base:Nat} {A:Option Addr} {c:Nat} {ws:List Nat} (h:w.ownsRow base 142 1 (.slice A ws.length c) ws.length (ws.map U32)):Rd U32 w w.heap.size A ws:=fun hn=>by
 rcases h.2 with ⟨h0,h1⟩ | ⟨g,cap,cur,h0,_,hg,_⟩
 ·omega
 ·injection h0 with h0 h1 h2
  subst h0
  refine ⟨_,rfl,(Array.getElem?_eq_some_iff.1 hg).1,fun j x hx=>?_⟩
  exact h.cells (g:=g) rfl j _ (by rw [List.getElem?_map,hx];rfl)
theorem own_slT {W:World} {base size n:Nat} {e:TypeId} {v:Value} {xs:List Value} (h:W.ownsRow base e size v n xs):∃ A c,v = .slice A n c∧n≤c:=by
 rcases h.2 with ⟨rfl,h1⟩ | ⟨g,cap,cur,rfl,_,hg,h1,_⟩
 ·exact ⟨none,0,by rw [h1],by omega⟩
 ·exact ⟨_,_,rfl,h1⟩
def ClR (W:World) (n m:Nat) (e:Ending) (w':World):Prop:=∃ A c,e = .returned (.slice A n c)∧Nm w' A n c m∧Bel W w'
theorem uclone_any {W:World} {A:Option Addr} {n c m:Nat} (h:Nm W A n c m):Calls Tryz.prog 63 #[.slice A n c] W (ClR W n m):=by
 have q:∀ (w:World) (a:Option Addr) (n c n' c':Nat),(binOp .eql 40 (.slice a n c) (.slice none n' c')).run Tryz.prog w = .ok (.bool a.isNone) w:=fun w a n c n' c'=>Lib.run_eql_slice_nil w _ _ a n c n' c' Tryz.underlying40
 obtain ⟨ws,h1,h2,h3,h4,h5,h6⟩:=h.out
 cases A with
 | none =>
   have h0:ws=[]:=by
    rcases Nat.eq_zero_or_pos ws.length with h0 | h0
    ·exact List.eq_nil_of_length_eq_zero h0
    ·obtain ⟨ad,e,_⟩:=h4 h0
     cases e
   subst h0
   obtain rfl:n=0:=h1
   have HR:Hid (Nm W none 0 0 m):=⟨[],rfl,Nat.le_refl _,Nat.zero_le _,fun hn=>absurd hn (by simp),h5,h6⟩
   clear h h2 h3 h4 h5 h6
   go_enter Tryz.func63,Tryz.ntmps63
   go_wp2
   go_ret
   exact ⟨none,0,rfl,HR.out,Bel.refl _⟩
 | some ad =>
   have hc:∀ (j:Nat) (v:Value),(ws.map U32)[j]? = some v→W.cell? (ad.add j)=some v∧ad.block < W.heap.size:=fun j v hj=>by
    rw [List.getElem?_map] at hj
    cases hx:ws[j]? with
    | none=>rw [hx] at hj;cases hj
    | some x =>
      rw [hx] at hj
      injection hj with hj
      have hl:j < ws.length:=(List.getElem?_eq_some_iff.1 hx).1
      obtain ⟨ad',e,hb,hcc⟩:=h4 (by omega)
      cases e
      exact ⟨by rw [← hj];exact hcc j x hx,hb⟩
   obtain ⟨i0,hi,hz0,hz1,hz2⟩:=info_parts Tryz.infoU32
   have hN:n≤100000:=h3
   have HC:=khide hc
   have HNN:=khide h1
   have H3:=khide h3;have H5:=khide h5;have H6:=khide h6
   have J0:=khide hi;have Y0:=khide hz0;have Y1:=khide hz1;have Y2:=khide hz2
   clear hc h1 h2 h3 h4 h5 h6 hi hz0 hz1 hz2 h
   go_enter Tryz.func63,Tryz.ntmps63
   go_wp2_with (at_builtin;refine wpList_append_own _ rfl _ _ 40 rfl W.heap.size 142 i0 (.int .u32 0) 1 4 Tryz.underlying40 J0.out Y0.out Y1.out Y2.out rfl (by decide) _ _ _ rfl (World.ownsRow_made W #[] 0 (Nat.le_refl _) (Nat.zero_le _) rfl) ad n c (ws.map U32) rfl ?qc1 ?qc2 ?qc3 ?qc4 ?qc5 ?qc6 ?_)
   case qc1=>rw [List.length_map,← HNN.out];simp
   case qc2 =>
    intro j u hj
    obtain ⟨h1,h2⟩:=HC.out j u hj
    rw [World.cell?_alloc_lt W _ _ (by rw [yblock_add];exact h2)]
    exact h1
   case qc3 =>
    intro u hu
    obtain ⟨x,_,rfl⟩:=List.mem_map.1 hu
    rfl
   case qc4=>unfold maxLen;omega
   case qc5=>omega
   case qc6=>simp
   intro v' w1 hown hgrow hnil
   have hown2:w1.ownsRow W.heap.size 142 1 v' n (ws.map U32):=by simpa using hown
   obtain ⟨A',cap,rfl,hcap⟩:=own_slT hown2
   have HR:Hid (Nm w1 A' n cap m):=⟨ws,HNN.out,hcap,H3.out,by have h1:=hown2;rw [HNN.out] at h1;exact rd_own h1,H5.out,H6.out⟩
   have HB:Hid (Bel W w1):=((Below.refl _ W).alloc (Nat.le_refl _) _).grown hgrow (by simp) (by intro k hk;simp [Value.ownBlock] at hk;omega)
   clear hown hgrow hnil hown2
   go_wp2
   go_ret
   exact ⟨A',cap,rfl,HR.out,HB.out⟩
def FrR (W:World) (b:Bool) (n n':Nat) (r:Rat) (K:Nat) (e:Ending) (w':World):Prop:=∃ B d B' d',e = .returned (.agg #[.bool b,.slice B n d,.slice B' n' d'])∧QA w' b B n d B' n' d' r K∧Bel W w'
theorem tfresh_h {W:World} {b:Bool} {A A':Option Addr} {n c n' c' K:Nat} {r:Rat} (h:QA W b A n c A' n' c' r K):Calls Tryz.prog 36 #[.agg #[.bool b,.slice A n c,.slice A' n' c']] W (FrR W b n n' r K):=by
 obtain ⟨z,dd,hz,hd,hr⟩:=h
 have CA:Hid (∀ W',Bel W W'→Calls Tryz.prog 63 #[.slice A n c] W' (ClR W' n z.natAbs)):=fun W' hb=>uclone_any (hz.1.up hb.hid)
 have CD:Hid (∀ W',Bel W W'→Calls Tryz.prog 63 #[.slice A' n' c'] W' (ClR W' n' dd)):=fun W' hb=>uclone_any (hd.up hb.hid)
 obtain ⟨zn,hzn⟩:∃ k,z.natAbs=k:=⟨_,rfl⟩
 rw [hzn] at CA
 have HZ:Hid (∀ V B d,Nm V B n d zn→ZA V b B n d z):=fun V B d h1=>⟨hzn ▸ h1,hz.2⟩
 have HR:=khide hr
 obtain ⟨W1,hW1⟩:∃ X,X=(W.alloc (.cells #[.bool b,.slice A n c,.slice A' n' c'] 51)).alloc (.cells #[.bool false,.slice none 0 0,.slice none 0 0] 51):=⟨_,rfl⟩
 have HQ:At W1 W.heap.size [.bool b,.slice A n c,.slice A' n' c']:=by rw [hW1];exact (at_new0 _ _ _).al _
 have HX:At W1 (W.heap.size + 1) [.bool false,.slice none 0 0,.slice none 0 0]:=by rw [hW1];exact at_new1 _ _ _ _
 have HB:Bel W W1:=by rw [hW1];exact ((Bel.refl W).al _).al _
 have HW:=khide hW1
 obtain ⟨qb,hqb⟩:∃ k,k=W.heap.size:=⟨_,rfl⟩
 obtain ⟨qx,hqx⟩:∃ k,k=W.heap.size + 1:=⟨_,rfl⟩
 rw [← hqb] at HQ
 rw [← hqx] at HX
 have HQX:Hid (W.heap.size≤qx∧qx ≠ qb):=⟨by omega,by omega⟩
 clear hz hd hr hzn hW1
 go_enter Tryz.func36,Tryz.ntmps36
 go_upto_region 1 with fail
 rw [← HW.out,show Value.pointer (some ⟨W.heap.size,0,none⟩)=Value.pointer (some ⟨qb,0,none⟩) by rw [hqb],show Value.pointer (some ⟨W.heap.size + 1,0,none⟩)=Value.pointer (some ⟨qx,0,none⟩) by rw [hqx]]
 clear hqb hqx HW
 have q0:=HQ.c0;have q1:=HQ.c1;have q2:=HQ.c2;have ql:=HQ.lt
 go_upto_region 2 with (first | (go_at_call 63;(with_reducible refine (CA.out _ HB).mono ?_);rintro e w2 ⟨B,d,rfl,hn,hbk⟩) | fail)
 refine kwp_named ?_
 intro W2 hW2
 replace HB:Bel W W2:=by rw [hW2];exact (HB.up (Bel.hid hbk)).al _
 replace HQ:At W2 qb [.bool b,.slice A n c,.slice A' n' c']:=by rw [hW2];exact (HQ.up (Bel.hid hbk)).al _
 have HXL:Hid (qx < w2.heap.size):=(HX.up (Bel.hid hbk)).lt
 replace HX:At W2 qx [.bool false,.slice none 0 0,.slice none 0 0]:=by rw [hW2];exact (HX.up (Bel.hid hbk)).al _
 have HN:At W2 w2.heap.size [.slice B n d]:=by rw [hW2];exact at_new0 _ _ _
 replace hn:Nm W2 B n d zn:=by rw [hW2];exact hn.al _
 obtain ⟨qn,hqn⟩:∃ k,k=w2.heap.size:=⟨_,rfl⟩
 rw [← hqn] at HN HXL ⊢
 clear hW2 hqn hbk q0 q1 q2 ql
 have HS:Hid (∀ w':World,Bel W2 w'→w'.cell? ⟨qb,0,none⟩=some (.bool b)∧w'.cell? ⟨qb,2,none⟩=some (.slice A' n' c')∧w'.cell? ⟨qn,0,none⟩=some (.slice B n d)):=fun w' hw=>⟨(hw.cell HQ.lt).trans HQ.c0,(hw.cell HQ.lt).trans HQ.c2,(hw.cell HN.lt).trans HN.c0⟩
 have HBX:Bel W2 W2:=Bel.refl _
 have hl1:=HQ.lt;have hl2:=HN.lt
 refine wp_region_held_drew (S:=fun w'=>w'.cell? ⟨qb,0,none⟩=some (.bool b)∧w'.cell? ⟨qb,2,none⟩=some (.slice A' n' c')∧w'.cell? ⟨qn,0,none⟩=some (.slice B n d)) (by kernel_rfl) ?_ (fun hHeld=>?_)
 ·exact HS.out _ (Bel.refl _).dr
 refine tq 0 ?_
 refine tq 1 ?_
 refine tq 2 ?_
 refine tq 3 ?_
 refine tq 4 ?_
 refine tq 5 ?_
 refine tq 6 ?_
 refine tq 7 ?_
 (refine sk 8 (fun K hK=>?_);go_simp;(first | (go_at_call 63;refine (CD.out _ HB.dr).mono ?_;rintro e w3 ⟨B',d',rfl,hm,hbk⟩;replace HBX:Bel W2 w3:=(Bel.refl W2).dr.up (Bel.hid hbk);replace HX:=HX.up (Bel.hid HBX);replace hn:=hn.up (Bel.hid HBX);have x0:=HX.c0;have x1:=HX.c1;have x2:=HX.c2;have xf0:=HX.f0;have xf1:=HX.f1;have xf2:=HX.f2;have xl:=HX.lt) | fail);(try (go_wp2_with fail));refine hK.out _ _ ?_ (fun hHeld=>?_);(focus ((try dsimp only);(first | exact HS.out _ HBX | exact ⟨((((HQ.up (Bel.hid HBX)).far HQX.out.2 _).far HQX.out.2 _).far HQX.out.2 _).c0,((((HQ.up (Bel.hid HBX)).far HQX.out.2 _).far HQX.out.2 _).far HQX.out.2 _).c2,((((HN.up (Bel.hid HBX)).far (Nat.ne_of_lt HXL.out) _).far (Nat.ne_of_lt HXL.out) _).far (Nat.ne_of_lt HXL.out) _).c0⟩)));clear hK K;(try simp only [lay7,Act.put]))
 refine tq 9 ?_
 refine tq 10 ?_
 (refine sk 11 (fun K hK=>?_);go_simp;refine hK.out _ _ ?_ (fun hHeld=>?_);(focus ((try dsimp only);(first | exact HS.out _ HBX | exact ⟨((((HQ.up (Bel.hid HBX)).far HQX.out.2 _).far HQX.out.2 _).far HQX.out.2 _).c0,((((HQ.up (Bel.hid HBX)).far HQX.out.2 _).far HQX.out.2 _).far HQX.out.2 _).c2,((((HN.up (Bel.hid HBX)).far (Nat.ne_of_lt HXL.out) _).far (Nat.ne_of_lt HXL.out) _).far (Nat.ne_of_lt HXL.out) _).c0⟩)));clear hK K;(try simp only [lay7,Act.put]))
 refine wpAnyH_done (by decide +kernel) ?_ _
 refine name_at ?_
 intro W4 hW4
 have HX4:At W4 qx [.bool b,.slice B n d,.slice B' n' d']:=by rw [hW4];exact HX.put3 _ _ _
 have hn4:Nm W4 B n d zn:=by rw [hW4];exact hn.put3 HX now3
 have hm4:Nm W4 B' n' d' dd:=by rw [hW4];exact hm.put3 HX now3
 have HB4:Bel W W4:=by rw [hW4];exact Bel.put3 (HB.up (Bel.hid HBX)) HQX.out.1 _ _ _
 clear hW4 hHeld x0 x1 x2 xf0 xf1 xf2 xl hl1 hl2 HS HBX hbk HX hn hm HQ HN
 have x0:=HX4.c0;have x1:=HX4.c1;have x2:=HX4.c2;have xl:=HX4.lt
 go_wp2_with fail
 refine bodyPost_ret (v:=.agg #[.bool b,.slice B n d,.slice B' n' d']) (by simp [results,Tryz.results36,go_sem,x0,x1,x2,xl]) rfl ?_
 exact ⟨B,d,B',d',rfl,⟨z,dd,HZ.out _ _ _ hn4,hm4,HR.out⟩,HB4⟩
def BoxT (W:World) (q:Nat) (vs:List Value) (t:TypeId):Prop:=W.heap[q]? = some (.cells vs.toArray t (0,0))
theorem BoxT.lt {W:World} {q:Nat} {vs:List Value} {t:TypeId} (h:BoxT W q vs t):q < W.heap.size:=(Array.getElem?_eq_some_iff.1 h).1
theorem BoxT.up {W W':World} {q:Nat} {vs:List Value} {t:TypeId} (h:BoxT W q vs t) (hb:Hid (Below W.heap.size W W')):BoxT W' q vs t:=(hb.out.block q h.lt).trans h
theorem BoxT.far {W:World} {q q' i:Nat} {vs:List Value} {t:TypeId} (h:BoxT W q vs t) (hn:q' ≠ q) (u:Value):BoxT (W.setCell ⟨q',i,none⟩ u) q vs t:=((Turn.set W ⟨q',i,none⟩ u).block q h.lt (by simpa using Ne.symm hn)).trans h
theorem boxT_new (W:World) (vs:List Value) (t:TypeId):BoxT (W.alloc (.cells vs.toArray t)) W.heap.size vs t:=heap_alloc_new W _
theorem ku_row {W:World} {q:Nat} {vs:List Value} {t:TypeId} {cs:Array Value} (h:BoxT W q vs t) (hv:∀ v ∈ vs,∀ x,v ≠ U32 x):KU W (W.setRow q cs):=by
 refine ⟨by simp [World.setRow],fun a x hc=>?_⟩
 by_cases ha:a.block=q
 ·exfalso
  obtain ⟨b,o,rfl⟩:=plainT hc
  have hb:b=q:=ha
  subst hb
  rw [cell_of_row _ _ o _ _ (0,0) h] at hc
  have h1:vs[o]? = some (U32 x):=by simpa using hc
  exact hv _ (List.mem_of_getElem? h1) x rfl
 ·have e:(W.setRow q cs).heap[a.block]? = W.heap[a.block]?:=setRow_other W q a.block cs ha
  obtain ⟨b,o,rfl⟩:=plainT hc
  exact (cell_same e o).trans hc
section
variable {base p:Nat} {W:World} {x:TPl} {T:Tb} {s:ByteArray}
def EnR (W:World) (s:ByteArray) (o:Option Ent) (e:Ending) (w':World):Prop:=match o with
 | none=>e = .returned (.tuple #[.agg #[.string ⟨#[]⟩,.string ⟨#[]⟩,.int .i64 0,.bool false,.slice none 0 0,.slice none 0 0,.bool false,.slice none 0 0,.slice none 0 0,.bool false],.bool false])∧Bel W w'
 | some m=>∃ b A n c A' n' c' b2 B k d B' k' d',e = .returned (.tuple #[.agg #[.string s,.string m.id,.int .i64 m.base,.bool b,.slice A n c,.slice A' n' c',.bool b2,.slice B k d,.slice B' k' d',.bool m.has],.bool true])∧QA w' b A n c A' n' c' m.fac 101∧QA w' b2 B k d B' k' d' m.off 101∧Bel W w'
theorem tentry_h (h:TabM base W p x T) (hs:s.size≤9223372036854775807):Calls Tryz.prog 16 #[.pointer (some ⟨p,0,none⟩),.string s] W (EnR W s (lookL T.ents s)):=by
 obtain ⟨nm,id,ba,s1,A1,n1,c1,A2,n2,c2,s2,B1,m1,d1,B2,m2,d2,ho,v,k1,_,k2,_⟩:=h.look hs
 have HM:=khide h
 obtain ⟨W1,hW1⟩:∃ X,X=W.alloc (.cells #[.string ⟨#[]⟩,.string ⟨#[]⟩,.int .i64 0,.bool false,.slice none 0 0,.slice none 0 0,.bool false,.slice none 0 0,.slice none 0 0,.bool false] 55):=⟨_,rfl⟩
 have HX:BoxT W1 W.heap.size [.string ⟨#[]⟩,.string ⟨#[]⟩,.int .i64 0,.bool false,.slice none 0 0,.slice none 0 0,.bool false,.slice none 0 0,.slice none 0 0,.bool false] 55:=by rw [hW1];exact boxT_new _ _ _
 have HB:Bel W W1:=by rw [hW1];exact (Bel.refl W).al _
 have HW:=khide hW1
 obtain ⟨qx,hqx⟩:∃ k,k=W.heap.size:=⟨_,rfl⟩
 rw [← hqx] at HX
 have HQX:Hid (W.heap.size≤qx):=by unfold Hid;omega
 cases hl:lookL T.ents s with
 | none =>
   rw [hl] at k1
   have K1:=khide k1
   clear hl k1 k2 h hs hW1
   go_enter Tryz.func16,Tryz.ntmps16
   go_upto_region 1 with fail
   rw [← HW.out,show Value.pointer (some ⟨W.heap.size,0,none⟩)=Value.pointer (some ⟨qx,0,none⟩) by rw [hqx]]
   clear hqx HW
   have HM1:=khide (HM.out.up HB.hid)
   have q2:=HM1.out.c2;have qp:=HM1.out.lt
   have k1:=K1.out W1 (Turn.of HB.hid)
   go_upto_region 2 with (first | (refine wpList_store_new 98 [.string nm,.string id,.int .i64 ba,.bool s1,.slice A1 n1 c1,.slice A2 n2 c2,.bool s2,.slice B1 m1 d1,.slice B2 m2 d2,.bool ho,.int .i64 v.x0,.int .i64 v.x1,.int .i64 v.x2,.int .i64 v.x3,.int .i64 v.x4,.int .i64 v.x5,.int .i64 v.x6,.int .i64 v.x7] (.tmp 6) (.tmp 16) _ rfl rfl rfl rfl (by kernel_rfl) rfl rfl ?_) | fail)
   refine kwp_named ?_
   intro W3 hW3
   have hb3:Bel W1 W3:=by rw [hW3];exact (Bel.refl W1).al _
   have HA:At W3 W1.heap.size [.string nm,.string id,.int .i64 ba,.bool s1,.slice A1 n1 c1,.slice A2 n2 c2,.bool s2,.slice B1 m1 d1,.slice B2 m2 d2,.bool ho,.int .i64 v.x0,.int .i64 v.x1,.int .i64 v.x2,.int .i64 v.x3,.int .i64 v.x4,.int .i64 v.x5,.int .i64 v.x6,.int .i64 v.x7]:=by rw [hW3];exact at_new0 _ _ _
   obtain ⟨qm,hqm⟩:∃ k,k=W1.heap.size:=⟨_,rfl⟩
   rw [← hqm] at HA ⊢
   clear hW3 q2 qp k1 HM1 hqm
   replace HX:=HX.up (Bel.hid hb3)
   replace HB:=HB.up (Bel.hid hb3)
   clear hb3
   go_upto_region 3 with fail
   go_wp2_with (first | (refine wpList_store_row rfl 55 (.tmp 4) (.tmp 20) rfl qx #[.string ⟨#[]⟩,.string ⟨#[]⟩,.int .i64 0,.bool false,.slice none 0 0,.slice none 0 0,.bool false,.slice none 0 0,.slice none 0 0,.bool false] rfl rfl 55 _ HX (by kernel_rfl) rfl (by first | kernel_rfl | simp [Value.oneCell']) ?_) | fail)
   refine vname_end ?_
   intro W4 hW4
   have HX4:At W4 qx [.string ⟨#[]⟩,.string ⟨#[]⟩,.int .i64 0,.bool false,.slice none 0 0,.slice none 0 0,.bool false,.slice none 0 0,.slice none 0 0,.bool false]:=by rw [hW4];exact at_row HX
   have HB4:Bel W W4:=by rw [hW4];exact bel_row HB HQX.out
   clear hW4
   have x0:=HX4.c0;have x1:=HX4.c1;have x2:=HX4.c2;have x3:=at_nth HX4 3 rfl;have x4:=at_nth HX4 4 rfl;have x5:=at_nth HX4 5 rfl;have x6:=at_nth HX4 6 rfl;have x7:=at_nth HX4 7 rfl;have x8:=at_nth HX4 8 rfl;have x9:=at_nth HX4 9 rfl;have xl:=HX4.lt
   refine bodyPost_ret (v:=.tuple #[.agg #[.string ⟨#[]⟩,.string ⟨#[]⟩,.int .i64 0,.bool false,.slice none 0 0,.slice none 0 0,.bool false,.slice none 0 0,.slice none 0 0,.bool false],.bool false]) (by simp [results,Tryz.results16,go_sem,x0,x1,x2,x3,x4,x5,x6,x7,x8,x9,xl]) rfl ?_
   exact ⟨rfl,HB4⟩
 | some m =>
   obtain ⟨hnm,rfl,rfl,rfl,rfl,hq1,hq2⟩:=k2 m hl
   obtain rfl:s=nm:=hnm.symm
   rw [hl] at k1
   have K1:=khide k1
   obtain ⟨id,ba,fac,off,ho,v,full⟩:=m
   dsimp only at hq1 hq2 K1 ⊢
   have CF:Hid (∀ W',Bel W W'→Calls Tryz.prog 36 #[.agg #[.bool s1,.slice A1 n1 c1,.slice A2 n2 c2]] W' (FrR W' s1 n1 n2 fac 101)):=fun W' hb=>tfresh_h (hq1.up hb.hid)
   have CG:Hid (∀ W',Bel W W'→Calls Tryz.prog 36 #[.agg #[.bool s2,.slice B1 m1 d1,.slice B2 m2 d2]] W' (FrR W' s2 m1 m2 off 101)):=fun W' hb=>tfresh_h (hq2.up hb.hid)
   clear hl k1 k2 h hs hW1 hq1 hq2
   go_enter Tryz.func16,Tryz.ntmps16
   go_upto_region 1 with fail
   rw [← HW.out,show Value.pointer (some ⟨W.heap.size,0,none⟩)=Value.pointer (some ⟨qx,0,none⟩) by rw [hqx]]
   clear hqx HW
   have HM1:=khide (HM.out.up HB.hid)
   have q2:=HM1.out.c2;have qp:=HM1.out.lt
   have k1:=K1.out W1 (Turn.of HB.hid)
   go_upto_region 2 with (first | (refine wpList_store_new 98 [.string s,.string id,.int .i64 ba,.bool s1,.slice A1 n1 c1,.slice A2 n2 c2,.bool s2,.slice B1 m1 d1,.slice B2 m2 d2,.bool ho,.int .i64 v.x0,.int .i64 v.x1,.int .i64 v.x2,.int .i64 v.x3,.int .i64 v.x4,.int .i64 v.x5,.int .i64 v.x6,.int .i64 v.x7] (.tmp 6) (.tmp 16) _ rfl rfl rfl rfl (by kernel_rfl) rfl rfl ?_) | fail)
   refine kwp_named ?_
   intro W3 hW3
   have hb3:Bel W1 W3:=by rw [hW3];exact (Bel.refl W1).al _
   have HA:At W3 W1.heap.size [.string s,.string id,.int .i64 ba,.bool s1,.slice A1 n1 c1,.slice A2 n2 c2,.bool s2,.slice B1 m1 d1,.slice B2 m2 d2,.bool ho,.int .i64 v.x0,.int .i64 v.x1,.int .i64 v.x2,.int .i64 v.x3,.int .i64 v.x4,.int .i64 v.x5,.int .i64 v.x6,.int .i64 v.x7]:=by rw [hW3];exact at_new0 _ _ _
   obtain ⟨qm,hqm⟩:∃ k,k=W1.heap.size:=⟨_,rfl⟩
   rw [← hqm] at HA ⊢
   clear hW3 q2 qp k1 HM1 hqm
   replace HX:=HX.up (Bel.hid hb3)
   replace HB:=HB.up (Bel.hid hb3)
   clear hb3
   have a0:=HA.c0;have a1:=HA.c1;have a2:=HA.c2;have a3:=at_nth HA 3 rfl;have a4:=at_nth HA 4 rfl;have a5:=at_nth HA 5 rfl;have a6:=at_nth HA 6 rfl;have a7:=at_nth HA 7 rfl;have a8:=at_nth HA 8 rfl;have a9:=at_nth HA 9 rfl;have al:=HA.lt
   go_upto_region 5 with (first | (refine wpList_store_new 55 [.string s,.string id,.int .i64 ba,.bool s1,.slice A1 n1 c1,.slice A2 n2 c2,.bool s2,.slice B1 m1 d1,.slice B2 m2 d2,.bool ho] (.tmp 8) (.tmp 22) _ rfl rfl rfl rfl (by kernel_rfl) rfl rfl ?_) | fail)
   refine kwp_named ?_
   intro W4 hW4
   have HXL:Hid (qx < W3.heap.size):=HX.lt
   have hb4:Bel W3 W4:=by rw [hW4];exact (Bel.refl W3).al _
   have HY:At W4 W3.heap.size [.string s,.string id,.int .i64 ba,.bool s1,.slice A1 n1 c1,.slice A2 n2 c2,.bool s2,.slice B1 m1 d1,.slice B2 m2 d2,.bool ho]:=by rw [hW4];exact at_new0 _ _ _
   replace HX:=HX.up (Bel.hid hb4)
   replace HB:=HB.up (Bel.hid hb4)
   have HQY:Hid (W.heap.size≤W3.heap.size):=Nat.le_trans HQX.out (Nat.le_of_lt HXL.out)
   obtain ⟨qy,hqy⟩:∃ k,k=W3.heap.size:=⟨_,rfl⟩
   rw [← hqy] at HY HXL HQY ⊢
   clear hW4 hqy hb4 a0 a1 a2 a3 a4 a5 a6 a7 a8 a9 al HA
   (try simp only [lay7,Act.put])
   go_cut [29] from 23 to 30 (fun _ w'=>∃ F1 f1 F2 f2 G1 g1 G2 g2,At w' qy [.string s,.string id,.int .i64 ba,.bool s1,.slice F1 n1 f1,.slice F2 n2 f2,.bool s2,.slice G1 m1 g1,.slice G2 m2 g2,.bool ho]∧QA w' s1 F1 n1 f1 F2 n2 f2 fac 101∧QA w' s2 G1 m1 g1 G2 m2 g2 off 101∧BoxT w' qx [.string ⟨#[]⟩,.string ⟨#[]⟩,.int .i64 0,.bool false,.slice none 0 0,.slice none 0 0,.bool false,.slice none 0 0,.slice none 0 0,.bool false] 55∧Bel W w')
   case first =>
    have y3:=(HY.all 3 _ rfl).1;have yf3:=(HY.all 3 _ rfl).2;have y4:=(HY.all 4 _ rfl).1;have yf4:=(HY.all 4 _ rfl).2;have y5:=(HY.all 5 _ rfl).1;have yf5:=(HY.all 5 _ rfl).2;have y6:=(HY.all 6 _ rfl).1;have yf6:=(HY.all 6 _ rfl).2;have y7:=(HY.all 7 _ rfl).1;have yf7:=(HY.all 7 _ rfl).2;have y8:=(HY.all 8 _ rfl).1;have yf8:=(HY.all 8 _ rfl).2;have yl:=HY.lt
    go_region_with (first | (go_at_call 36;(with_reducible refine (CF.out _ HB.dr).mono ?_);rintro e w5 ⟨F1,f1,F2,f2,rfl,hf,hbk⟩;clear y3 yf3 y4 yf4 y5 yf5 y6 yf6 y7 yf7 y8 yf8 yl;replace HY:=HY.dr.up (Bel.hid hbk);replace HX:=BoxT.up (W:=W4.drew) HX (Bel.hid hbk);replace HB:=HB.dr.up (Bel.hid hbk);have y3:=(HY.all 3 _ rfl).1;have yf3:=(HY.all 3 _ rfl).2;have y4:=(HY.all 4 _ rfl).1;have yf4:=(HY.all 4 _ rfl).2;have y5:=(HY.all 5 _ rfl).1;have yf5:=(HY.all 5 _ rfl).2;have y6:=(HY.all 6 _ rfl).1;have yf6:=(HY.all 6 _ rfl).2;have y7:=(HY.all 7 _ rfl).1;have yf7:=(HY.all 7 _ rfl).2;have y8:=(HY.all 8 _ rfl).1;have yf8:=(HY.all 8 _ rfl).2;have yl:=HY.lt) | (go_at_call 36;(with_reducible refine (CG.out _ HB).mono ?_);rintro e w6 ⟨G1,g1,G2,g2,rfl,hg,hbk2⟩;clear y3 yf3 y4 yf4 y5 yf5 y6 yf6 y7 yf7 y8 yf8 yl;replace HY:=HY.up (Bel.hid hbk2);replace HX:=HX.up (Bel.hid hbk2);replace HB:=HB.up (Bel.hid hbk2);replace hf:=hf.up (Bel.hid hbk2);have y3:=(HY.all 3 _ rfl).1;have yf3:=(HY.all 3 _ rfl).2;have y4:=(HY.all 4 _ rfl).1;have yf4:=(HY.all 4 _ rfl).2;have y5:=(HY.all 5 _ rfl).1;have yf5:=(HY.all 5 _ rfl).2;have y6:=(HY.all 6 _ rfl).1;have yf6:=(HY.all 6 _ rfl).2;have y7:=(HY.all 7 _ rfl).1;have yf7:=(HY.all 7 _ rfl).2;have y8:=(HY.all 8 _ rfl).1;have yf8:=(HY.all 8 _ rfl).2;have yl:=HY.lt) | fail)
    all_goals
     go_wp2_with fail
     go_meet
     case rel =>
      refine ⟨F1,f1,F2,f2,G1,g1,G2,g2,?_,?_,?_,?_,?_⟩
      ·exact ent_put6 (ent_put3 HY _ _ _) _ _ _
      ·exact (hf.ku (ku_put3 HY _ _ _)).ku (ku_put6 (ent_put3 HY _ _ _) _ _ _)
      ·exact (hg.ku (ku_put3 HY _ _ _)).ku (ku_put6 (ent_put3 HY _ _ _) _ _ _)
      ·exact (((((HX.far (Nat.ne_of_gt HXL.out) _).far (Nat.ne_of_gt HXL.out) _).far (Nat.ne_of_gt HXL.out) _).far (Nat.ne_of_gt HXL.out) _).far (Nat.ne_of_gt HXL.out) _).far (Nat.ne_of_gt HXL.out) _
      ·exact (((((HB.put HQY.out _).put HQY.out _).put HQY.out _).put HQY.out _).put HQY.out _).put HQY.out _
   case rest =>
   obtain ⟨F1,f1,F2,f2,G1,g1,G2,g2,HY7,hf,hg,HX7,HB7⟩:=hcut
   have a0:=HY7.c0;have a1:=HY7.c1;have a2:=HY7.c2;have a3:=at_nth HY7 3 rfl;have a4:=at_nth HY7 4 rfl;have a5:=at_nth HY7 5 rfl;have a6:=at_nth HY7 6 rfl;have a7:=at_nth HY7 7 rfl;have a8:=at_nth HY7 8 rfl;have a9:=at_nth HY7 9 rfl;have al:=HY7.lt
   clear HX HB HY
   go_wp2_with (first | (refine wpList_store_row rfl 55 (.tmp 4) (.tmp 31) rfl qx #[.string s,.string id,.int .i64 ba,.bool s1,.slice F1 n1 f1,.slice F2 n2 f2,.bool s2,.slice G1 m1 g1,.slice G2 m2 g2,.bool ho] rfl rfl 55 _ HX7 (by kernel_rfl) rfl (by first | kernel_rfl | simp [Value.oneCell']) ?_) | fail)
   refine vname_end ?_
   intro W8 hW8
   have HX4:At W8 qx [.string s,.string id,.int .i64 ba,.bool s1,.slice F1 n1 f1,.slice F2 n2 f2,.bool s2,.slice G1 m1 g1,.slice G2 m2 g2,.bool ho]:=by rw [hW8];exact at_row HX7
   have HB8:Bel W W8:=by rw [hW8];exact bel_row HB7 HQX.out
   have K8:=ku_row (cs:=#[.string s,.string id,.int .i64 ba,.bool s1,.slice F1 n1 f1,.slice F2 n2 f2,.bool s2,.slice G1 m1 g1,.slice G2 m2 g2,.bool ho]) HX7 (by intro v hv;simp at hv;rcases hv with rfl | rfl | rfl | rfl | rfl | rfl | rfl | rfl | rfl | rfl <;> intro x e <;> cases e)
   rw [← hW8] at K8
   clear hW8 a0 a1 a2 a3 a4 a5 a6 a7 a8 a9 al
   have x0:=HX4.c0;have x1:=HX4.c1;have x2:=HX4.c2;have x3:=at_nth HX4 3 rfl;have x4:=at_nth HX4 4 rfl;have x5:=at_nth HX4 5 rfl;have x6:=at_nth HX4 6 rfl;have x7:=at_nth HX4 7 rfl;have x8:=at_nth HX4 8 rfl;have x9:=at_nth HX4 9 rfl;have xl:=HX4.lt
   refine bodyPost_ret (v:=.tuple #[.agg #[.string s,.string id,.int .i64 ba,.bool s1,.slice F1 n1 f1,.slice F2 n2 f2,.bool s2,.slice G1 m1 g1,.slice G2 m2 g2,.bool ho],.bool true]) (by simp [results,Tryz.results16,go_sem,x0,x1,x2,x3,x4,x5,x6,x7,x8,x9,xl]) rfl ?_
   exact ⟨s1,F1,n1,f1,F2,n2,f2,s2,G1,m1,g1,G2,m2,g2,rfl,hf.ku K8,hg.ku K8,HB8⟩
end
end Go.Proofs.YtfflmmbhpchloaaGreatDoor
end
