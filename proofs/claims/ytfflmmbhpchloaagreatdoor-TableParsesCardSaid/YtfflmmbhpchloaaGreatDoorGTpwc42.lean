/- Each theorem here says its own conditions. -/
import Derived.Test.YtfflmmbhpchloaaGreatDoorGTpwc41
set_option maxRecDepth 100000
set_option maxHeartbeats 16000000
section
open Go.RowKit
open Go.Proofs.YtfflmmbhpchloaaGreatDoor.V
namespace Go.Proofs.YtfflmmbhpchloaaGreatDoor
def convR (rs:List E.TRow):List (Int × List ByteArray):=rs.map fun r=>((r.1:Int),r.2)
theorem rw_lw {w:World} {B:Nat} {A:Option Addr} {rs:List E.TRow} (h:E.RW w B A rs):LW w B A (convR rs):=fun hn=>by
 unfold convR at hn ⊢
 rw [List.length_map] at hn
 obtain ⟨g,vs,e,hb,hl,hc⟩:=h hn
 refine ⟨g,0,e,hb,fun j r hj=>?_⟩
 rw [List.getElem?_map,Option.map_eq_some_iff] at hj
 obtain ⟨r0,hr0,rfl⟩:=hj
 have hjl:j < vs.length:=by rw [hl];exact (List.getElem?_eq_some_iff.1 hr0).1
 obtain ⟨h1,h2,A',c,h3,_,h5,h6⟩:=hc j r0 _ hr0 (List.getElem?_eq_getElem hjl)
 exact ⟨A',c,by rw [Nat.zero_add];exact h1,by rw [Nat.zero_add,h2,h3],h5,h6⟩
def LoC (W:World) (T:Tb) (e:Ending) (w':World):Prop:=∃ base p x,W.heap.size≤base∧e = .returned (.tuple #[.pointer (some ⟨p,0,none⟩),.int .i64 0,.int .i64 0])∧TabM base w' p x T∧Bel W w'
theorem cload_h {W:World} {s:ByteArray} {rs:List E.TRow} {T:Tb} (hs:E.tableOf s=(rs,0,0)) (hT:Tb.nil.rows (convR rs) = .ok T) (hz:∀ r ∈ convR rs,∀ u ∈ r.2,u.size≤2000000) (hn:rs.length≤900000) (tb:Tabs W) :
 Calls Tryz.prog 9 #[.string s] W (LoC W T):=by
 obtain ⟨n,hnn⟩:∃ k,rs.length=k:=⟨_,rfl⟩
 have CP:Hid (∀ W',Calls Tryz.prog 27 #[.string s] W' (fun e w'=>∃ A c,e = .returned (.tuple #[.slice A n c,.int .i64 0,.int .i64 0])∧LW w' w'.heap.size A (convR rs)∧Bel W' w')):=fun W'=>(E.parse_any hs W').mono (by
  rintro e w' ⟨A,c,h1,_,h2,h3⟩
  rw [hnn] at h1
  exact ⟨A,c,h1,rw_lw h2.out,h3⟩)
 have CL:Hid (∀ W' A c,LW W' W'.heap.size A (convR rs)→Bel W W'→Calls Tryz.prog 25 #[.slice A n c] W' (fun e w'=>∃ p x,e = .returned (.tuple #[.pointer (some ⟨p,0,none⟩),.int .i64 0,.int .i64 0])∧TabM W'.heap.size w' p x T∧Bel W' w')):=fun W' A c h1 hb=>by
  have h2:=tload_h (c:=c) h1 (n:=n) (by rw [← hnn];simp [convR]) (by omega) hz (tb.up hb.hid)
  rw [hT] at h2
  exact h2
 clear hs hT hz hn tb hnn
 go_enter Tryz.func9,Tryz.ntmps9
 go_wp2_with (first
  | (go_at_call 27;(with_reducible refine (CP.out _).mono ?_);rintro e w1 ⟨A,c,rfl,hlw,hb1⟩)
  | (go_at_call 25;(with_reducible refine (CL.out _ _ _ hlw hb1).mono ?_);rintro e w2 ⟨p,x,rfl,ht,hb2⟩)
  | fail)
 refine bodyPost_ret (v:=.tuple #[.pointer (some ⟨p,0,none⟩),.int .i64 0,.int .i64 0]) (by simp [results,Tryz.results9,go_sem]) rfl ?_
 exact ⟨w1.heap.size,p,x,hb1.sz,rfl,ht,hb1.up hb2.hid⟩
def awakeS:ByteArray:=⟨#[98,97,115,101,32,109,101,116,101,114,32,108,101,110,103,116,104,10,117,110,105,116,32,102,111,111,116,32,51,56,49,47,49,50,53,48,32,109,101,116,101,114]⟩
def metricS:ByteArray:=⟨#[98,97,115,101,32,109,101,116,101,114,32,108,101,110,103,116,104,10,98,97,115,101,32,115,101,99,111,110,100,32,116,105,109,101,10,98,97,115,101,32,107,101,108,118,105,110,32,116,101,109,112,101,114,97,116,117,114,101,10,112,114,101,102,105,120,32,107,105,108,111,32,49,48,32,51,10,112,114,101,102,105,120,32,109,105,108,108,105,32,49,48,32,45,51,10,117,110,105,116,32,102,111,111,116,32,51,56,49,47,49,50,53,48,32,109,101,116,101,114,10,117,110,105,116,32,105,110,99,104,32,49,47,49,50,32,102,111,111,116,10,117,110,105,116,32,121,97,114,100,32,51,32,102,111,111,116,10,117,110,105,116,32,109,105,110,117,116,101,32,54,48,32,115,101,99,111,110,100,10,117,110,105,116,32,99,101,108,115,105,117,115,32,49,32,107,101,108,118,105,110,32,50,55,51,49,53,47,49,48,48,10,117,110,105,116,32,102,97,104,114,101,110,104,101,105,116,32,53,47,57,32,107,101,108,118,105,110,32,52,53,57,54,55,47,49,56,48,10,113,117,97,110,116,105,116,121,32,115,112,101,101,100,32,109,101,116,101,114,45,112,101,114,45,115,101,99,111,110,100,10,113,117,97,110,116,105,116,121,32,97,114,101,97,32,115,113,117,97,114,101,45,109,101,116,101,114,10,97,108,105,97,115,32,107,112,104,32,107,105,108,111,109,101,116,101,114,45,112,101,114,45,115,101,99,111,110,100,10]⟩
def awakeR:List E.TRow:=(E.tableOf awakeS).1
def metricR:List E.TRow:=(E.tableOf metricS).1
def okD (r:Except (Int × Int) Tb):Bool:=match r with
 | .ok _=>true
 | .error _=>false
def tabD (r:Except (Int × Int) Tb):Tb:=match r with
 | .ok T=>T
 | .error _=>Tb.nil
theorem okD_eq {r:Except (Int × Int) Tb} (h:okD r=true):r = .ok (tabD r):=by
 cases r with
 | ok T=>rfl
 | error v=>cases h
def awakeT:Tb:=tabD (Tb.nil.rows (convR awakeR))
def metricT:Tb:=tabD (Tb.nil.rows (convR metricR))
theorem awake_rows:(E.tableOf awakeS).2=(0,0):=by decide +kernel
theorem metric_rows:(E.tableOf metricS).2=(0,0):=by decide +kernel
theorem awake_ok:okD (Tb.nil.rows (convR awakeR))=true:=by decide +kernel
theorem metric_ok:okD (Tb.nil.rows (convR metricR))=true:=by decide +kernel
theorem awake_len:awakeR.length=2:=by decide +kernel
theorem metric_len:metricR.length=14:=by decide +kernel
theorem awake_sz:(convR awakeR).all (fun r=>r.2.all fun u=>decide (u.size≤2000000))=true:=by decide +kernel
theorem metric_sz:(convR metricR).all (fun r=>r.2.all fun u=>decide (u.size≤2000000))=true:=by decide +kernel
theorem sz_all {rs:List (Int × List ByteArray)} (h:rs.all (fun r=>r.2.all fun u=>decide (u.size≤2000000))=true):∀ r ∈ rs,∀ u ∈ r.2,u.size≤2000000:=fun r hr u hu =>
 of_decide_eq_true (List.all_eq_true.1 (List.all_eq_true.1 h r hr) u hu)
theorem pair_eq {r:List E.TRow × Nat × Nat} (h:r.2=(0,0)):r=(r.1,0,0):=by
 obtain ⟨a,b⟩:=r
 cases h
 rfl
theorem awake_load {W:World} (tb:Tabs W):Calls Tryz.prog 9 #[.string awakeS] W (LoC W awakeT):=cload_h (pair_eq awake_rows) (okD_eq awake_ok) (sz_all awake_sz) (by show awakeR.length≤900000;rw [awake_len];omega) tb
theorem metric_load {W:World} (tb:Tabs W):Calls Tryz.prog 9 #[.string metricS] W (LoC W metricT):=cload_h (pair_eq metric_rows) (okD_eq metric_ok) (sz_all metric_sz) (by show metricR.length≤900000;rw [metric_len];omega) tb
theorem metric_h (W:World):Calls Tryz.prog 10 #[] W (fun e w'=>e = .returned (.string metricS)∧Bel W w'):=by
 go_enter Tryz.func10,Tryz.ntmps10
 go_wp2
 go_ret
 exact ⟨by first | rfl | (unfold metricS;decide +kernel) | kernel_rfl,Bel.refl W⟩
end Go.Proofs.YtfflmmbhpchloaaGreatDoor
end
section
open Go.RowKit
namespace Go.Proofs.YtfflmmbhpchloaaGreatDoor
def StrsT (W:World) (xs:List ByteArray) (e:Ending) (w':World):Prop:=e = .returned (.slice (some ⟨W.heap.size,0,none⟩) xs.length xs.length)∧w'.heap[W.heap.size]? = some (.cells (xs.map Value.string).toArray 9 (0,0))∧Hid (Below W.heap.size W w')
def SplitT (W:World) (xs:List ByteArray) (e:Ending) (w':World):Prop:=e = .returned (.tuple #[.slice (some ⟨W.heap.size,0,none⟩) xs.length xs.length,.int .i64 0])∧w'.heap[W.heap.size]? = some (.cells (xs.map Value.string).toArray 9 (0,0))∧Hid (Below W.heap.size W w')
theorem tssplit_any (s:ByteArray) (w:World) (hs:s.size≤1000000):Calls Tryz.prog 53 #[.string s,.string ⟨#[45]⟩] w (StrsT w (pcs s)):=by
 have CG:=yhide (fun W=>gensplit_any s W hs)
 clear hs
 have HR:Hid (∀ o:List ByteArray,o=pcs s→StrsT w o (.returned (.slice (some ⟨w.heap.size,0,none⟩) o.length o.length)) (w.alloc (.cells (o.map Value.string).toArray 9))) :=
  fun o _=>⟨rfl,heap_alloc_new w _,(Below.refl _ _).alloc (Nat.le_refl _) _⟩
 obtain ⟨xs,hx⟩:∃ xs,xs=pcs s:=⟨_,rfl⟩
 have CH:Hid (∀ W,Calls Tryz.prog 92 #[.string s,.string ⟨#[45]⟩,.int .i64 0,.int .i64 (-1)] W fun e w'=>e = .returned (.slice (some ⟨W.heap.size,0,none⟩) xs.length xs.length)∧w'=W.alloc (.cells (xs.map Value.string).toArray 9)):=fun W=>by
  rw [hx];exact CG.out W
 have HX:=yhide (HR.out xs hx)
 rw [← hx]
 clear CG HR hx
 go_enter Tryz.func53,Tryz.ntmps53
 go_wp2_with (first | (go_at_call 92;(with_reducible refine (CH.out _).mono ?_);rintro e w1 ⟨rfl,hw1⟩;rw [hw1]) | fail)
 go_ret
 exact HX.out
theorem twsplit_any {s:ByteArray} (hs:s.size≤256) (w:World):Calls Tryz.prog 28 #[.string s] w (if goodAll (pcs s) then SplitT w (pcs s) else SplitNo w 2):=by
 have d:decide ((256:Int) < (s.size:Int))=false:=decide_eq_false (by omega)
 have CS:=yhide (fun W=>tssplit_any s W (by omega))
 have HL:=yhide (pcs_le s)
 have HSZ:=yhide hs
 obtain ⟨xs,hx⟩:∃ xs,xs=pcs s:=⟨_,rfl⟩
 rw [← hx] at CS HL ⊢
 obtain ⟨n,hn⟩:∃ n,n=xs.length:=⟨_,rfl⟩
 have hn2:n≤1000000:=by have:=HL.out;omega
 have HN:=yhide hn
 clear hx hn hs
 have HS:Hid (∀ W,goodAll xs=true→W.heap[w.heap.size]? = some (.cells (xs.map Value.string).toArray 9 (0,0))→Hid (Below w.heap.size w W)→(if goodAll xs then SplitT w xs else SplitNo w 2) (.returned (.tuple #[.slice (some ⟨w.heap.size,0,none⟩) n n,.int .i64 0])) W):=fun W h2 h3 h4=>by
  rw [if_pos h2,HN.out];exact ⟨rfl,h3,h4⟩
 have HB:Hid (∀ W,goodAll xs=false→Hid (Below w.heap.size w W)→(if goodAll xs then SplitT w xs else SplitNo w 2) (.returned (.tuple #[.slice none 0 0,.int .i64 2])) W):=fun W h2 h4=>by
  rw [if_neg (by rw [h2];simp)];exact ⟨rfl,h4⟩
 obtain ⟨Q,hQ⟩:∃ Q,Q=(if goodAll xs then SplitT w xs else SplitNo w 2):=⟨_,rfl⟩
 rw [← hQ] at HS HB ⊢
 clear hQ
 go_enter Tryz.func28,Tryz.ntmps28
 go_wp2_with (first | (go_at_call 53;(with_reducible refine (CS.out _).mono ?_);rintro e w1 ⟨rfl,hrow,hbk⟩;rw [← HN.out];have HRW:=yhide hrow;clear hrow) | fail)
 go_loop [14] (fun iv=>∃ k:Nat,k≤n∧iv = .int .i64 (k:Int)∧Hid (goodAll (xs.take k)=true)) (fun iv=>n - (intOf iv).toNat)
 case atStart=>exact ⟨0,Nat.zero_le _,rfl,rfl⟩
 case round =>
  obtain ⟨k,hk,rfl,hall⟩:=hrel
  by_cases hlt:k < n
  ·have hx:k < xs.length:=by rw [← HN.out];exact hlt
   obtain ⟨x,hxe⟩:∃ x,x=xs[k]:=⟨_,rfl⟩
   have hcell:w1.cell? ⟨w.heap.size,k,none⟩=some (.string x):=by
    rw [cell_of_row _ _ k _ _ (0,0) HRW.out,hxe]
    simp [hx]
   have hb:w.heap.size < w1.heap.size:=(Array.getElem?_eq_some_iff.1 HRW.out).1
   obtain ⟨b,hbe⟩:∃ b,b=goodW x.data.toList:=⟨_,rfl⟩
   have HG1:Hid (goodAll (xs.take (k + 1))=(goodAll (xs.take k) && b)):=by rw [hbe,hxe];exact goodAll_take hx
   have HG2:Hid (b=false→goodAll xs=false):=fun h=>goodAll_false hx (by rw [← hxe,← hbe,h])
   have CG:Hid (∀ W,Calls Tryz.prog 56 #[.string x] W fun e w'=>e = .returned (.bool b)∧W=w'):=fun W=>by rw [hbe];exact wgood_any x W
   clear hxe hbe hx
   cases b
   ·go_wp2_with (first | (go_at_call 56;(with_reducible refine (CG.out _).mono ?_);rintro e w2 ⟨rfl,rfl⟩) | fail)
    exact HB.out _ (HG2.out (by first | rfl | trivial)) hbk
   ·go_wp2_with (first | (go_at_call 56;(with_reducible refine (CG.out _).mono ?_);rintro e w2 ⟨rfl,rfl⟩) | fail)
    go_round
    case rel=>exact ⟨k + 1,by omega,by go_num,by unfold Hid;rw [HG1.out,hall.out];rfl⟩
    case measure=>simp [intOf];omega
  ·obtain rfl:k=n:=by omega
   have HG:Hid (goodAll xs=true):=by
    have:=hall.out
    rwa [List.take_of_length_le (by rw [← HN.out];exact Nat.le_refl _)] at this
   go_wp2
   exact HS.out _ HG.out HRW.out hbk
def AppR (W0:World) (zs:List ByteArray) (e:Ending) (w':World):Prop:=∃ R c z,Hid (z=zs.length)∧e = .returned (.slice R z c)∧Hid (w'.ownsRow W0.heap.size 9 1 (.slice R z c) z (zs.map Value.string))∧Hid (Below W0.heap.size W0 w')
theorem appendShown_any {W0:World} {A R:Option Addr} {n c z cp:Nat} {l:List AL} {xs:List ByteArray} {w:World} (hB:Hid (Below W0.heap.size W0 w)) (h:Cs W0 A (cellsA l)) (hn:n=l.length) (hl:n≤1000) (hz:z=xs.length) (hzl:z≤1000000) (ho:Hid (w.ownsRow W0.heap.size 9 1 (.slice R z cp) z (xs.map Value.string))) (hs:∀ a ∈ l,a.1.size≤2000000∧a.2.1.size≤2000000) :
 Calls Tryz.prog 64 #[.slice R z cp,.slice A n c] w (AppR W0 (xs ++ showsA l)):=by
 have HN:=khide hn
 have HS:=khide hs
 have HZ:=khide hz
 obtain ⟨i0,hi,hz0,hz1,hz2⟩:=info_parts hinfoStr
 have J0:=khide hi;have Y0:=khide hz0;have Y1:=khide hz1;have Y2:=khide hz2
 clear hi hz0 hz1 hz2 hn hs hz
 go_enter Tryz.func64,Tryz.ntmps64
 go_wp2
 go_loopw [0,9] (fun rv iv wr=>∃ (k cp q:Nat) (R:Option Addr),k≤n∧iv = .int .i64 (k:Int)∧rv = .slice R q cp∧q=z + k∧Hid (wr.ownsRow W0.heap.size 9 1 (.slice R q cp) q ((xs ++ showsA (l.take k)).map Value.string))∧Hid (Below W0.heap.size W0 wr)) (fun _ iv _=>n - (intOf iv).toNat)
 case atStart=>exact ⟨0,cp,z,R,Nat.zero_le _,rfl,rfl,rfl,(by rw [show xs ++ showsA (l.take 0)=xs by simp [showsA]];exact ho),hB⟩
 case round =>
  clear ho hB
  obtain ⟨k,cp,q,R,hk,rfl,rfl,hq,HO,HB⟩:=hrel
  by_cases hlt:k < n
  ·obtain ⟨a,ha⟩:∃ a,l[k]? = some a:=⟨l[k]'(by rw [← HN.out];exact hlt),List.getElem?_eq_getElem _⟩
   obtain ⟨ad,rfl,had,a0,a1,a2⟩:=cs_at3 (h.up HB) ha
   obtain ⟨p,nm,pk⟩:=a
   have HSZ:Hid (p.size≤2000000∧nm.size≤2000000):=HS.out _ (List.mem_of_getElem? ha)
   obtain ⟨s,hse⟩:∃ s,showB p nm pk=s:=⟨_,rfl⟩
   have C0:Hid (∀ W:World,Calls Tryz.prog 99 #[.agg #[.string p,.string nm,.int .i64 pk]] W (StrR W s)):=fun W=>hse ▸ show_any (by have:=HSZ.out;omega) W
   have HX:Hid ((xs ++ showsA (l.take (k + 1))).map Value.string=(xs ++ showsA (l.take k)).map Value.string ++ [.string s]):=by
    obtain ⟨hx,hx2⟩:=List.getElem?_eq_some_iff.1 ha
    unfold Hid
    rw [List.take_succ_eq_append_getElem hx,hx2]
    unfold showsA
    have e1:(l.take k ++ [(p,nm,pk)]).map showA=(l.take k).map showA ++ [s]:=by rw [List.map_append,← hse];rfl
    rw [e1,← List.append_assoc,List.map_append]
    rfl
   have HBS:Hid (W0.heap.size≤wr.heap.size):=HB.out.size
   have k0:(0:Int)≤(k:Int):=by omega
   have k1:(k:Int) < (n:Int):=by omega
   have hql:q≤1001000:=by omega
   have HQ:=khide hq
   clear ha hse hq
   go_wp2_with (first | (go_at_call 99;(with_reducible refine (C0.out _).mono ?_);rintro e w2 ⟨rfl,hb2⟩) | (at_builtin;go_must (refine wpList_append_own _ rfl (.tmp 13) (.tmp 16) 60 rfl W0.heap.size 9 i0 (.string ByteArray.empty) 1 16 Tryz.underlying60 J0.out Y0.out Y1.out Y2.out rfl (by decide) _ _ _ rfl ((own_up (HO.out.alloc _) hb2).alloc _) ⟨w2.heap.size,0,none⟩ 1 1 [.string s] rfl rfl (at_news (at_new0 _ _ _)) (one_str _) (by simp only [maxLen];omega) (by omega) (Nat.le_trans HBS.out (Nat.le_trans (Nat.le_trans (by simp) hb2.out.size) (by simp))) ?_);intro v1 w3 ho1 hg1 hn1;clear hn1) | fail)
   have hg2:(w2.alloc (.cells #[.string s] 9)).grownBy w3 (Value.slice R q cp).ownBlock:=hg1
   have HO2:=own_up (HO.out.alloc (.cells #[.string p,.string nm,.int .i64 pk] 96)) hb2
   have HB2:Hid (Below W0.heap.size W0 w2):=(HB.out.alloc HBS.out _).trans (hb2.out.mono (Nat.le_trans HBS.out (by simp)))
   have HB3:Hid (Below W0.heap.size W0 w3):=(HB2.out.alloc HB2.out.size _).grown hg2 (HB2.out.alloc HB2.out.size _).size (fun g' e=>(HO2.lt g' e).1)
   obtain ⟨R2,cp2,rfl,_⟩:=own_slice ho1
   have HO3:=khide ho1
   clear hg1 hg2 ho1 HO2
   go_roundw
   case rel =>
    refine ⟨k + 1,cp2,q + 1,R2,by omega,by go_num,rfl,(by have:=HQ.out;omega),?_,HB3⟩
    rw [HX.out]
    exact HO3
   case measure=>simp [intOf];omega
  ·obtain rfl:k=n:=by omega
   go_wp2
   go_ret
   have h3:=HO.out
   rw [List.take_of_length_le (by rw [← HN.out];exact Nat.le_refl _)] at h3
   have e:(xs ++ showsA l).length=q:=by unfold showsA;rw [List.length_append,List.length_map,← HN.out,← HZ.out,hq]
   exact ⟨R,cp,q,e.symm,rfl,h3,HB⟩
end Go.Proofs.YtfflmmbhpchloaaGreatDoor
end
