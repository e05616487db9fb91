/- Each theorem here says its own conditions. -/
import Derived.Test.YtfflmmbhpchloaaGreatDoorJh
set_option maxRecDepth 100000
set_option maxHeartbeats 16000000
section
open Go.RowKit
namespace Go.Proofs.YtfflmmbhpchloaaGreatDoor
def sepB:ByteArray:=⟨#[45,97,110,100,45]⟩
theorem pApp_of {w W1:World} {A:Option Addr} {n c:Nat} {l:List AL} (h:Cs w A (cellsA l)) (hn:n=l.length) (hf:FitL l) (hb:Hid (Below w.heap.size w W1)):PApp W1 A n c (showsA l):=fun W R z cp xs hB hz hzl ho =>
 appendShown_any hB (h.up hb) hn (by have:=hf.1;omega) hz hzl ho hf.2
theorem shows_len (l:List AL):(showsA l).length=l.length:=List.length_map _
theorem ushow_part {w:World} {v1 v2 v3:Value} {q:QL} (hq:Q1 w v1 v2 v3 q) (hf:FitP (toP q)):Calls Tryz.prog 37 #[.agg #[v1,v2,v3]] w (StrR w (partS (toP q))):=by
 obtain ⟨A1,c1,A2,c2,A3,c3,rfl,rfl,rfl,b1,b2,b3,b4,r1,r2,r3,-,-⟩:=hq.open_
 obtain ⟨l1,l2,ws⟩:=q
 obtain ⟨f1,f2,f3⟩:=hf
 have e1:(toP (l1,l2,ws)).1=l1:=rfl
 have e2:(toP (l1,l2,ws)).2.1=l2:=rfl
 rw [e1] at f1
 rw [e2] at f2
 have C1:∀ W1,Hid (Below w.heap.size w W1)→PApp W1 A1 l1.length c1 (showsA l1):=fun W1 hb=>pApp_of r1 rfl f1 hb
 have C2:∀ W1,Hid (Below w.heap.size w W1)→PApp W1 A2 l2.length c2 (showsA l2):=fun W1 hb=>pApp_of r2 rfl f2 hb
 have L1:(showsA l1).length≤1000:=by rw [shows_len];exact f1.1
 have L2:(showsA l2).length≤1000:=by rw [shows_len];exact f2.1
 have HP:partW (toP (l1,l2,ws))=if l2=[]∧nuT (val W32 ws)=oneB then showsA l1 else if nuT (val W32 ws)=oneB then showsA l1 ++ [perB] ++ showsA l2 else showsA l1 ++ [perB] ++ [nuT (val W32 ws)] ++ showsA l2:=rfl
 unfold partS
 obtain ⟨zs,hzs⟩:∃ zs,partW (toP (l1,l2,ws))=zs:=⟨_,rfl⟩
 rw [hzs] at HP f3 ⊢
 by_cases hv:val W32 ws=1
 ·have hv':=(nuT_one_iff _).2 hv
  by_cases hm:l2.length=0
  ·have h2:l2=[]:=List.eq_nil_of_length_eq_zero hm
   rw [if_pos ⟨h2,hv'⟩] at HP
   exact ushow_a0 hv hm r3 C1 C2 L1 L2 (by rw [HP,h2];exact (List.append_nil _).symm) f3 rfl
  ·have h2:l2 ≠ []:=fun e=>hm (by rw [e];rfl)
   rw [if_neg (fun k=>h2 k.1),if_pos hv'] at HP
   exact ushow_a1 hv (Nat.pos_of_ne_zero hm) r3 C1 C2 L1 L2 HP f3 rfl
 ·have hv':nuT (val W32 ws) ≠ oneB:=fun e=>hv ((nuT_one_iff _).1 e)
  rw [if_neg (fun k=>hv' k.2),if_neg hv'] at HP
  by_cases hm:l2.length=0
  ·exact ushow_b0 hv hm r3 C1 C2 L1 L2 HP f3 rfl
  ·exact ushow_b1 hv (Nat.pos_of_ne_zero hm) r3 C1 C2 L1 L2 HP f3 rfl
theorem join_take {sep:List UInt8} {xs:List (List UInt8)} {k:Nat} {y:List UInt8} (h:xs[k]? = some y):Lib.join (xs.take (k + 1)) sep=(if 0 < k then Lib.join (xs.take k) sep ++ sep else Lib.join (xs.take k) sep) ++ y:=by
 cases xs with
 | nil=>simp at h
 | cons x r =>
   cases k with
   | zero=>simp at h;subst h;rw [if_neg (Nat.lt_irrefl 0)];simp [Lib.join_one,Lib.join_nil]
   | succ k =>
     rw [if_pos (Nat.succ_pos _)]
     have h1:r[k]? = some y:=by simpa using h
     rw [List.take_succ_cons,List.take_succ_cons,Lib.join_cons,Lib.join_cons,Lib.joinTail_take_succ sep r k y h1]
     simp [List.append_assoc]
theorem unitN_join (ps:List PL):∀ k,k≤ps.length→(unitN ps k).data.toList=Lib.join (((ps.map partS).map (·.data.toList)).take k) sepB.data.toList
 | 0,_=>rfl
 | k + 1,hk=>by
   have ih:=unitN_join ps k (by omega)
   have hp:ps[k]? = some ps[k]:=List.getElem?_eq_getElem (by omega)
   have h1:((ps.map partS).map (·.data.toList))[k]? = some (partS ps[k]).data.toList:=by rw [List.getElem?_map,List.getElem?_map,hp];rfl
   rw [join_take h1,unitN,hp,← ih,app_data]
   by_cases h0:0 < k
   ·rw [if_pos h0,if_pos h0,app_data];rfl
   ·rw [if_neg h0,if_neg h0]
theorem unitS_join (ps:List PL):(unitS ps).data.toList=Lib.join ((ps.map partS).map (·.data.toList)) sepB.data.toList:=by
 unfold unitS
 rw [unitN_join ps _ (Nat.le_refl _),List.take_of_length_le (by simp)]
theorem sjoin5_any {w:World} {A:Option Addr} {n c:Nat} {ps:List PL} (h:Ss w A (ps.map partS)) (hn:n=ps.length) (hc:n≤c) (hN:n≤1000000) (hl:(unitS ps).size≤140737488355328) :
 Calls Tryz.prog 38 #[.slice A n c,.string ⟨#[45,97,110,100,45]⟩] w (StrR w (unitS ps)):=by
 have hJ:=unitS_join ps
 have e9:unitS ps=⟨(Lib.join ((ps.map partS).map (·.data.toList)) sepB.data.toList).toArray⟩:=by rw [← hJ]
 have hl2:(Lib.join ((ps.map partS).map (·.data.toList)) sepB.data.toList).length≤140737488355328:=by rw [← hJ];rw [Lib.size_eq] at hl;exact hl
 obtain ⟨xs,hxs⟩:∃ xs,ps.map partS=xs:=⟨_,rfl⟩
 have hn2:n=xs.length:=by rw [← hxs,List.length_map];exact hn
 rw [e9]
 rw [hxs] at h hl2 ⊢
 clear hJ e9 hl hn
 subst hn2
 cases xs with
 | nil =>
   refine (Tryz.strings_Join_none A c ⟨#[45,97,110,100,45]⟩ w).mono fun e w' ⟨he,hw⟩=>⟨by rw [he];rfl,by rw [hw];exact Below.refl _ _⟩
 | cons x xs =>
   obtain ⟨ad,rfl,hb,hcell⟩:=h.out (by simp)
   have h0:=hcell 0 x rfl
   obtain ⟨b,o,hbo⟩:=plain_of h0
   rw [show ad.add 0=ad by simp [Addr.add]] at hbo
   subst hbo
   have hcl:∀ (j:Nat) y,(x :: xs)[j]? = some y→w.cell? ⟨b,o + j,none⟩=some (.string y):=fun j y hj=>by
    have h1:=hcell j y hj
    have e:(⟨b,o,none⟩:Addr).add j=⟨b,o + j,none⟩:=by unfold Addr.add;split <;> simp_all
    rwa [e] at h1
   have c1:=Tryz.strings_Join b o c (x :: xs) ⟨#[45,97,110,100,45]⟩ w hcl hb (by omega) hc hl2
   exact c1.mono fun e w' ⟨he,hw⟩=>⟨he,hw⟩
def RowS (W:World) (g n:Nat) (xs:List ByteArray):Prop:=Hid (At W g (xs.map Value.string ++ List.replicate (n - xs.length) (.string ⟨#[]⟩)))
section
variable {W W':World} {g n k:Nat} {xs:List ByteArray}
theorem RowS.up (h:RowS W g n xs) (hb:Hid (Below W.heap.size W W')):RowS W' g n xs:=h.out.up hb
theorem RowS.al (h:RowS W g n xs) (o:Obj):RowS (W.alloc o) g n xs:=h.out.al o
theorem RowS.lt (h:RowS W g n xs):g < W.heap.size:=h.out.lt
theorem RowS.zero (h:RowS W g n xs) (hl:xs.length=k) (hk:k < n):W.cell? ⟨g,k,none⟩=some (.string ⟨#[]⟩)∧W.frozen? ⟨g,k,none⟩=false:=by
 refine h.out.all k _ ?_
 rw [List.getElem?_append_right (by simp;omega),List.getElem?_replicate,if_pos (by simp;omega)]
theorem RowS.put (h:RowS W g n xs) (hl:xs.length=k) (hk:k < n) (s:ByteArray):RowS (W.setCell ⟨g,k,none⟩ (.string s)) g n (xs ++ [s]):=by
 have h1:=h.out.put (i:=k) (by simp;omega) (.string s)
 unfold RowS
 have e:(xs.map Value.string ++ List.replicate (n - xs.length) (Value.string ⟨#[]⟩)).set k (Value.string s)=(xs ++ [s]).map Value.string ++ List.replicate (n - (xs ++ [s]).length) (Value.string ⟨#[]⟩):=by
  rw [List.set_append_right _ _ (by simp;omega)]
  obtain ⟨d,hd⟩:∃ d,n - xs.length=d + 1:=⟨n - xs.length - 1,by omega⟩
  rw [hd,List.length_map,hl,Nat.sub_self,List.replicate_succ,List.set_cons_zero,List.length_append,List.length_singleton,show n - (xs.length + 1)=d by omega]
  simp
 rw [← e];exact h1
theorem RowS.ss (h:RowS W g n xs) (hl:xs.length=n):Ss W (some ⟨g,0,none⟩) xs:=fun h0=>by
 refine ⟨_,rfl,h.out.lt,fun j x hj=>?_⟩
 rw [plain_add3]
 refine h.out.ci ?_
 rw [List.getElem?_append_left (by rw [List.length_map];exact (List.getElem?_eq_some_iff.1 hj).1),List.getElem?_map,hj];rfl
end
theorem make_strs (n:Nat) (hn:n≤1000000) (w:World):(Instr.makeSlice 60 (.int .i64 (n:Int)) (.int .i64 (n:Int))).run Tryz.prog w =
 .ok (.slice (some ⟨w.heap.size,0,none⟩) n n) (w.alloc (.cells (madeCells #[.string ⟨#[]⟩] n) 9)):=by
 obtain ⟨i0,hi0,hz0,hz1,hz2⟩:=info_parts hinfoStr
 have h:=run_make (P:=Tryz.prog) w 60 9 i0 (.string ByteArray.empty) Tryz.underlying60 hi0 hz0 .i64 .i64 n n (by omega) (by omega) (by rw [hz2];omega) (by omega)
 have e:(⟨#[]⟩:ByteArray)=ByteArray.empty:=rfl
 rw [e]
 simpa [hz1,Value.cells] using h
theorem made_strs (w:World) (n:Nat) (t:TypeId):RowS (w.alloc (.cells (madeCells #[.string ⟨#[]⟩] n) t)) w.heap.size n []:=by
 have e:madeCells #[Value.string ⟨#[]⟩] n=(List.replicate n (Value.string ⟨#[]⟩)).toArray:=by
  apply Array.ext
  ·simp [size_madeCells]
  ·intro i h1 h2
   simp [madeCells,Nat.mod_one]
 rw [e]
 exact at_new0 _ _ _
theorem ushow_any {A:Option Addr} {n c:Nat} {qs:List QL} {w:World} (h:Qs w A qs) (hn:n=qs.length) (hl:n≤1000) (hf:∀ q ∈ qs,FitP (toP q)) (hJ:(unitS (qs.map toP)).size≤140737488355328) :
 Calls Tryz.prog 17 #[.agg #[.slice A n c]] w (StrR w (unitS (qs.map toP))):=by
 obtain ⟨W1,hW1⟩:∃ X,X=w.alloc (.cells #[.slice A n c] 32):=⟨_,rfl⟩
 have HU:At W1 w.heap.size [.slice A n c]:=by rw [hW1];exact at_new0 _ _ _
 have HB:Bel w W1:=by rw [hW1];exact (Bel.refl w).al _
 have HN:=khide hn
 have HF:=khide hf
 have CJ:Hid (∀ (W:World) (g:Nat),Ss W (some ⟨g,0,none⟩) ((qs.map toP).map partS)→Calls Tryz.prog 38 #[.slice (some ⟨g,0,none⟩) n n,.string ⟨#[45,97,110,100,45]⟩] W (StrR W (unitS (qs.map toP)))):=fun W g hs=>sjoin5_any hs (by rw [List.length_map];exact hn) (Nat.le_refl _) (by omega) hJ
 obtain ⟨S,hS⟩:∃ S,unitS (qs.map toP)=S:=⟨_,rfl⟩
 rw [hS] at CJ ⊢
 have hmk:∀ W:World,(Instr.makeSlice 60 (.int .i64 (n:Int)) (.int .i64 (n:Int))).run Tryz.prog W = .ok (.slice (some ⟨W.heap.size,0,none⟩) n n) (W.alloc (.cells (madeCells #[.string ⟨#[]⟩] n) 9)):=fun W=>make_strs n (by omega) W
 have HW:=khide hW1
 clear hW1 hn hf hJ hS
 have hu_0:=HU.c0;have hu_l:=HU.lt
 go_enter Tryz.func17,Tryz.ntmps17
 go_upto_region 1 with fail
 rw [← HW.out]
 go_upto_region 2 with fail
 clear hu_0 hu_l
 refine kwp_named ?_
 intro W2 hW2
 have HP:RowS W2 W1.heap.size n []:=by rw [hW2];exact made_strs _ _ _
 have HG:Hid (w.heap.size < W1.heap.size):=HU.lt
 replace HU:At W2 w.heap.size [.slice A n c]:=by rw [hW2];exact HU.al _
 replace HB:Bel w W2:=by rw [hW2];exact HB.al _
 obtain ⟨g,hg⟩:∃ g,g=W1.heap.size:=⟨_,rfl⟩
 rw [← hg] at HP HG
 rw [← hg]
 clear hW2 hg hmk HW
 have hu_0:=HU.c0;have hu_l:=HU.lt
 go_wp2_with fail
 clear hu_0 hu_l
 go_loopw [13] (fun iv wr=>∃ (k:Nat),k≤n∧iv = .int .i64 (k:Int)∧RowS wr g n (((qs.map toP).map partS).take k)∧Hid (Bel w wr)) (fun iv _=>n - (intOf iv).toNat)
 case atStart=>exact ⟨0,Nat.zero_le _,rfl,HP,HB⟩
 case round =>
  clear HP HU HB
  obtain ⟨k,hk,rfl,HP,HB⟩:=hrel
  have LL:Hid (((qs.map toP).map partS).length=n):=by unfold Hid;rw [List.length_map,List.length_map,HN.out]
  by_cases hlt:k < n
  ·obtain ⟨q,hq⟩:∃ q,qs[k]? = some q:=⟨qs[k]'(by rw [← HN.out];exact hlt),List.getElem?_eq_getElem _⟩
   obtain ⟨ad,v1,v2,v3,rfl,had,a0,a1,a2,HQ⟩:=(h.up HB.out.hid).at_ hq
   have HX:Hid (((qs.map toP).map partS).take (k + 1)=((qs.map toP).map partS).take k ++ [partS (toP q)]):=by
    have hx:k < ((qs.map toP).map partS).length:=by rw [LL.out];exact hlt
    unfold Hid
    rw [List.take_succ_eq_append_getElem hx]
    have e:((qs.map toP).map partS)[k]? = some (partS (toP q)):=by rw [List.getElem?_map,List.getElem?_map,hq];rfl
    rw [List.getElem?_eq_getElem hx] at e
    injection e with e
    rw [e]
   obtain ⟨s,hs⟩:∃ s,partS (toP q)=s:=⟨_,rfl⟩
   have CS:Hid (∀ W:World,Q1 W v1 v2 v3 q→Calls Tryz.prog 37 #[.agg #[v1,v2,v3]] W (StrR W s)):=fun W hQ=>hs ▸ ushow_part hQ (HF.out q (List.mem_of_getElem? hq))
   obtain ⟨A1,c1,A2,c2,A3,c3,rfl,rfl,rfl,-⟩:=HQ.open_
   rw [hs] at HX
   have k0:(0:Int)≤(k:Int):=by omega
   have k1:(k:Int) < (n:Int):=by omega
   have HG2:Hid (g < wr.heap.size):=HP.lt
   have hpk:(((qs.map toP).map partS).take k).length=k:=by rw [List.length_take,LL.out];omega
   have HPK:=khide hpk
   have HQa:=fun o=>HQ.al (W:=wr) o
   have HQb:=khide HQa
   clear hq hs HQa HQ hpk
   go_wp2_with (first | (go_at_call 37;(with_reducible refine (CS.out _ (HQb.out _)).mono ?_);rintro e w2 ⟨rfl,hb2⟩;replace HP:=(HP.al _).up hb2;replace HB:=khide ((HB.out.al _).up hb2);obtain ⟨z0,f0⟩:=HP.zero HPK.out hlt;have zl:=HP.lt) | fail)
   have HP2:=HP.put HPK.out hlt s
   have HB2:Hid (Bel w (w2.setCell ⟨g,k,none⟩ (.string s))):=Below.setCell HB.out (by have:=HG.out;show w.heap.size≤g;omega) _
   go_roundw
   case rel =>
    refine ⟨k + 1,by omega,by go_num,?_,HB2⟩
    rw [HX.out]
    exact HP2
   case measure=>simp [intOf];omega
  ·obtain rfl:k=n:=by omega
   have HS:Hid (Ss wr (some ⟨g,0,none⟩) ((qs.map toP).map partS)):=by
    have h9:=HP
    rw [List.take_of_length_le (by rw [LL.out];exact Nat.le_refl _)] at h9
    exact h9.ss LL.out
   go_wp2_with (first | (go_at_call 38;(with_reducible refine (CJ.out _ _ HS.out).mono ?_);rintro e w2 ⟨rfl,hb2⟩) | fail)
   go_ret
   exact ⟨rfl,(HB.out.up hb2)⟩
def longA (a:AL):Bool:=decide (256 < a.1.size + a.2.1.size)
def greatQ (q:QL):Bool:=decide (3 < q.2.2.length) || (decide (8 < q.1.length + q.2.1.length) || (q.1.any longA || q.2.1.any longA))
section
variable {w:World} {q:QL}
end
def sameP (l l':List PL):Bool:=decide (l=l')
def LenP (ps:List PL):Prop:=∀ p ∈ ps,p.1.length≤1000000∧p.2.1.length≤1000000
def LenQ (q:QL):Prop:=q.1.length≤1000000∧q.2.1.length≤1000000
section
variable {w:World} {p q:QL}
end
theorem glue_bound {m:Nat}:∀ (ls:List (List UInt8)),(∀ x ∈ ls,x.length≤m)→(glue (45:UInt8) ls).length≤ls.length * (m + 1)
 | [],_=>Nat.zero_le _
 | [x],h=>by
   have:=h x (by simp)
   show x.length≤1 * (m + 1)
   omega
 | x :: y :: ls,h=>by
   have h1:=glue_bound (y :: ls) (fun z hz=>h z (by simp [hz]))
   have h2:=h x (by simp)
   rw [glue_cons x (by simp),List.length_append,List.length_cons]
   rw [List.length_cons (a:=x),Nat.add_mul]
   omega
theorem showB_size (p n:ByteArray) (k:Int):(showB p n k).size≤p.size + n.size + 10:=by
 unfold showB
 split
 ·exact Nat.zero_le _
 ·split
  ·rw [ByteArray.size_append];omega
  ·rename_i h1 h2
   have h3:=pwB_size k.toNat (by omega) (by omega)
   have h4:(joinS [pwB k.toNat,p ++ n]).size=(glue 45 ([pwB k.toNat,p ++ n].map (·.data.toList))).length:=by
    unfold joinS
    rw [Lib.size_eq]
   rw [h4,glue_two,ByteArray.size_append]
   omega
theorem decL_short {m:Nat} (h:m < W32 ^ 3):(nuT m).size≤30:=by
 have:=dt_le (m:=m) (k:=30) (Nat.lt_trans h (by decide)) (by decide)
 rw [Lib.size_eq]
 exact this
def SmallL (l:List AL) (m:Nat):Prop:=∀ a ∈ l,a.1.size + a.2.1.size≤m
theorem showsA_small {l:List AL} {m:Nat} (h:SmallL l m):∀ x ∈ showsA l,x.size≤m + 10:=fun x hx=>by
 unfold showsA at hx
 obtain ⟨a,ha,rfl⟩:=List.mem_map.1 hx
 have h1:=showB_size a.1 a.2.1 a.2.2
 have h2:=h a ha
 show (showB a.1 a.2.1 a.2.2).size≤m + 10
 omega
theorem partW_small {p:PL} {m k:Nat} (h:SmallL p.1 m) (h':SmallL p.2.1 m) (ht:p.2.2.size≤m + 10) (hl:p.1.length + p.2.1.length≤k):(∀ x ∈ partW p,x.size≤m + 10)∧(partW p).length≤k + 2:=by
 have h1:=showsA_small h
 have h2:=showsA_small h'
 have h3:perB.size≤m + 10:=by have:perB.size=3:=rfl;omega
 have l1:=shows_len p.1
 have l2:=shows_len p.2.1
 unfold partW
 split
 ·exact ⟨h1,by omega⟩
 ·split
  ·refine ⟨fun x hx=>?_,by simp;omega⟩
   simp only [List.mem_append,List.mem_singleton] at hx
   rcases hx with (hx | rfl) | hx
   ·exact h1 x hx
   ·exact h3
   ·exact h2 x hx
  ·refine ⟨fun x hx=>?_,by simp;omega⟩
   simp only [List.mem_append,List.mem_singleton] at hx
   rcases hx with ((hx | rfl) | rfl) | hx
   ·exact h1 x hx
   ·exact h3
   ·exact ht
   ·exact h2 x hx
theorem partS_small {p:PL} {m k:Nat} (h:SmallL p.1 m) (h':SmallL p.2.1 m) (ht:p.2.2.size≤m + 10) (hl:p.1.length + p.2.1.length≤k):(glue 45 ((partW p).map (·.data.toList))).length≤(k + 2) * (m + 11):=by
 obtain ⟨h1,h2⟩:=partW_small h h' ht hl
 have h3:=glue_bound (m:=m + 10) ((partW p).map (·.data.toList)) (fun x hx=>by
  obtain ⟨y,hy,rfl⟩:=List.mem_map.1 hx
  have:=h1 y hy
  rw [Lib.size_eq] at this
  exact this)
 rw [List.length_map] at h3
 exact Nat.le_trans h3 (Nat.mul_le_mul_right _ h2)
theorem unitN_small {ps:List PL} {m:Nat} (h:∀ p ∈ ps,(partS p).size≤m):∀ k,(unitN ps k).size≤k * (m + 5)
 | 0=>Nat.zero_le _
 | k + 1=>by
   have ih:=unitN_small h k
   have h0:∀ x:ByteArray,x.size≤m→((if 0 < k then unitN ps k ++ ⟨#[45,97,110,100,45]⟩ else unitN ps k) ++ x).size≤(k + 1) * (m + 5):=fun x hx=>by
    rw [ByteArray.size_append,Nat.add_mul]
    by_cases h0:0 < k
    ·rw [if_pos h0,ByteArray.size_append]
     have h2:(⟨#[45,97,110,100,45]⟩:ByteArray).size=5:=rfl
     omega
    ·rw [if_neg h0];omega
   cases e:ps[k]? with
   | none =>
     have e2:unitN ps (k + 1)=(if 0 < k then unitN ps k ++ ⟨#[45,97,110,100,45]⟩ else unitN ps k) ++ ⟨#[]⟩:=by rw [unitN,e]
     rw [e2]
     exact h0 _ (Nat.zero_le _)
   | some p =>
     have e2:unitN ps (k + 1)=(if 0 < k then unitN ps k ++ ⟨#[45,97,110,100,45]⟩ else unitN ps k) ++ partS p:=by rw [unitN,e]
     rw [e2]
     exact h0 _ (h p (List.mem_of_getElem? e))
theorem partS_eq (p:PL):(partS p).size=(glue 45 ((partW p).map (·.data.toList))).length:=by
 unfold partS joinS
 rw [Lib.size_eq]
theorem great_fit {q:QL} (hg:greatQ q=false) (hw:Good32 q.2.2):FitP (toP q)∧(partS (toP q)).size≤2670:=by
 unfold greatQ at hg
 simp only [Bool.or_eq_false_iff,decide_eq_false_iff_not] at hg
 obtain ⟨g1,g2,g3,g4⟩:=hg
 have s1:SmallL q.1 256:=fun a ha=>by
  have:=List.any_eq_false.1 g3 a ha
  unfold longA at this
  simp only [decide_eq_true_eq] at this
  omega
 have s2:SmallL q.2.1 256:=fun a ha=>by
  have:=List.any_eq_false.1 g4 a ha
  unfold longA at this
  simp only [decide_eq_true_eq] at this
  omega
 have hv:val W32 q.2.2 < W32 ^ 3:=Nat.lt_of_lt_of_le (val_lt _ hw) (Nat.pow_le_pow_right (by decide) (by omega))
 have ht:(toP q).2.2.size≤256 + 10:=by
  have:=decL_short hv
  show (nuT (val W32 q.2.2)).size≤_
  omega
 have hs:=partS_small (p:=toP q) (m:=256) (k:=8) s1 s2 ht (by show q.1.length + q.2.1.length≤8;omega)
 refine ⟨⟨⟨?_,?_⟩,⟨?_,?_⟩,by omega⟩,by rw [partS_eq];omega⟩
 ·show q.1.length≤1000;omega
 ·intro a ha;have:=s1 a ha;omega
 ·show q.2.1.length≤1000;omega
 ·intro a ha;have:=s2 a ha;omega
theorem Qs.putg {W:World} {g p i:Nat} {qs:List QL} {A':Option Addr} {n c:Nat} (h:Qs W (some ⟨g,0,none⟩) qs) (hne:p ≠ g) (hc:W.cell? ⟨p,i,none⟩=some (.slice A' n c)) (u:Value):Qs (W.setCell ⟨p,i,none⟩ u) (some ⟨g,0,none⟩) qs:=fun h0=>by
 obtain ⟨ad,e,hb,hx⟩:=h.out h0
 injection e with e
 subst e
 have hz:(W.setCell ⟨p,i,none⟩ u).heap.size=W.heap.size:=by simp [World.setCell]
 refine ⟨_,rfl,by rw [hz];exact hb,fun j q hj=>?_⟩
 obtain ⟨v1,v2,v3,k1,k2,k3,k4⟩:=hx j q hj
 have hf:∀ j,(W.setCell ⟨p,i,none⟩ u).cell? ((⟨g,0,none⟩:Addr).add j)=W.cell? ((⟨g,0,none⟩:Addr).add j):=fun j=>World.cell?_setCell_far _ _ _ _ (by rw [yblock_add];exact hne)
 have h4:Q1 W v1 v2 v3 q:=k4
 have h5:=(h4.setn hc u).out
 exact ⟨v1,v2,v3,(hf _).trans k1,(hf _).trans k2,(hf _).trans k3,h5⟩
end Go.Proofs.YtfflmmbhpchloaaGreatDoor
end
section
open Go.RowKit
open Go.Proofs.YtfflmmbhpchloaaGreatDoor.V
namespace Go.Proofs.YtfflmmbhpchloaaGreatDoor
def Tb.sub (T:Tb) (s:ByteArray):ByteArray:=(lookL T.als s).getD s
def Tb.parse (T:Tb) (s:ByteArray):Except Int (List PL):=if 256 < s.size then .error 11 else if goodAll (pcs s)=true then unitD T.names T.prefs (joinS ((pcs s).map T.sub)) else .error 2
def mixL (f:ByteArray→ByteArray) (xs:List ByteArray) (k:Nat):List ByteArray:=(xs.take k).map f ++ xs.drop k
theorem mix_at {f:ByteArray→ByteArray} {xs:List ByteArray} {k:Nat} {x:ByteArray} (h:xs[k]? = some x):(mixL f xs k)[k]? = some x:=by
 have hk:=(List.getElem?_eq_some_iff.1 h).1
 unfold mixL
 rw [List.getElem?_append_right (by simp;omega)]
 rw [List.length_map,List.length_take,Nat.min_eq_left (by omega),Nat.sub_self,List.getElem?_drop]
 exact h
theorem mix_next {f:ByteArray→ByteArray} {xs:List ByteArray} {k:Nat} {x:ByteArray} (h:xs[k]? = some x):mixL f xs (k + 1)=(mixL f xs k).set k (f x):=by
 have hk:=(List.getElem?_eq_some_iff.1 h).1
 unfold mixL
 rw [List.set_append_right _ _ (by simp;omega)]
 rw [List.length_map,List.length_take,Nat.min_eq_left (by omega),Nat.sub_self]
 rw [List.drop_eq_getElem_cons hk,(List.getElem?_eq_some_iff.1 h).2,List.set_cons_zero]
 rw [List.take_succ_eq_append_getElem hk,(List.getElem?_eq_some_iff.1 h).2]
 simp
theorem mix_same {f:ByteArray→ByteArray} {xs:List ByteArray} {k:Nat} {x:ByteArray} (h:xs[k]? = some x) (hf:f x=x):mixL f xs (k + 1)=mixL f xs k:=by
 rw [mix_next h,hf]
 have h1:=mix_at (f:=f) h
 have hk:=(List.getElem?_eq_some_iff.1 h1).1
 have e:=(List.getElem?_eq_some_iff.1 h1).2
 rw [← e,List.set_getElem_self]
theorem mix_all {f:ByteArray→ByteArray} {xs:List ByteArray} {k:Nat} (h:xs.length≤k):mixL f xs k=xs.map f:=by
 unfold mixL
 rw [List.take_of_length_le h,List.drop_eq_nil_of_le h,List.append_nil]
theorem glue_leT {b:Nat}:∀ (xs:List (List UInt8)),(∀ x ∈ xs,x.length≤b)→(glue 45 xs).length≤xs.length * (b + 1)
 | [],_=>by simp [glue]
 | [x],h=>by have:=h x (by simp);simp [glue];omega
 | x :: y :: r,h=>by
   have h1:=h x (by simp)
   have h2:=glue_leT (y :: r) (fun z hz=>h z (List.mem_cons_of_mem _ hz))
   rw [glue_cons x (by simp),List.length_append,List.length_cons]
   simp only [List.length_cons] at h2 ⊢
   rw [Nat.add_mul]
   omega
theorem piece_le (s:ByteArray):∀ x ∈ pcs s,x.size≤s.size:=by
 intro x hx
 have h1:(glue 45 ((pcs s).map (·.data.toList))).length=s.size:=by
  rw [pcs_parts,Lib.size_eq];exact congrArg List.length (glue_cutBy _)
 have h2:∀ (l:List (List UInt8)) (y:List UInt8),y ∈ l→y.length≤(glue 45 l).length:=by
  intro l
  induction l with
  | nil=>intro y h;cases h
  | cons a l ih =>
    intro y hy
    cases l with
    | nil=>rcases List.mem_cons.1 hy with rfl | hy
           ·simp [glue]
           ·cases hy
    | cons b r =>
      rw [glue_cons a (by simp),List.length_append,List.length_cons]
      rcases List.mem_cons.1 hy with rfl | hy
      ·omega
      ·have:=ih y hy;omega
 have h3:=h2 ((pcs s).map (fun z=>z.data.toList)) x.data.toList (List.mem_map.2 ⟨x,hx,rfl⟩)
 rw [h1,← Lib.size_eq] at h3
 exact h3
theorem row_set {W:World} {g k:Nat} {xs:List ByteArray} {u:ByteArray} (h:W.heap[g]? = some (.cells (xs.map Value.string).toArray 9 (0,0))):(W.setCell ⟨g,k,none⟩ (.string u)).heap[g]? = some (.cells ((xs.set k u).map Value.string).toArray 9 (0,0)):=by
 simp [World.setCell,Array.getElem?_modify,h,List.map_set]
section
variable {base p:Nat} {W:World} {x:TPl} {T:Tb} {s:ByteArray}
theorem tparse_h (h:TabM base W p x T) (hl1:T.ents.length≤1000000) (hl2:T.vals.length≤1000000) (hal:∀ a ∈ T.als,a.2.size≤256):Calls Tryz.prog 11 #[.pointer (some ⟨p,0,none⟩),.string s] W (UnitR W (T.parse s)):=by
 have HM:=khide h
 obtain ⟨W1,hW1⟩:∃ X,X=W.alloc (.cells #[.slice none 0 0] 32):=⟨_,rfl⟩
 have HX:At W1 W.heap.size [.slice none 0 0]:=by rw [hW1];exact at_new0 _ _ _
 have HB:Bel W W1:=by rw [hW1];exact (Bel.refl W).al _
 have HW:=khide hW1
 obtain ⟨qx,hqx⟩:∃ k,k=W.heap.size:=⟨_,rfl⟩
 rw [← hqx] at HX
 have HQX:Hid (W.heap.size≤qx):=by unfold Hid;omega
 by_cases hbad:256 < s.size ∨ goodAll (pcs s)=false
 ·obtain ⟨v,hv,hT,CS⟩:∃ v:Int,(v=11 ∨ v=2)∧T.parse s = .error v ∧ ∀ W',Calls Tryz.prog 28 #[.string s] W' (SplitNo W' v):=by
   by_cases h1:256 < s.size
   ·exact ⟨11,.inl rfl,by unfold Tb.parse;rw [if_pos h1],fun W'=>wsplit_long h1 W'⟩
   ·have h2:=hbad.resolve_left h1
    refine ⟨2,.inr rfl,by unfold Tb.parse;rw [if_neg h1,if_neg (by rw [h2];decide)],fun W'=>?_⟩
    have h3:=wsplit_any (s:=s) (by omega) W'
    rw [if_neg (by rw [h2];decide)] at h3
    exact h3
  rw [hT]
  have CS:=khide CS
  clear hbad h hT hW1 hl1 hl2 hal
  rcases hv with rfl | rfl
  all_goals
   go_enter Tryz.func11,Tryz.ntmps11
   go_upto_region 1 with fail
   rw [← HW.out,show Value.pointer (some ⟨W.heap.size,0,none⟩)=Value.pointer (some ⟨qx,0,none⟩) by rw [hqx]]
   clear hqx HW
   go_upto_region 3 with (first | (go_at_call 28;(with_reducible refine (CS.out _).mono ?_);rintro e w2 ⟨rfl,hb2⟩) | fail)
   replace HX:=HX.up hb2
   replace HB:=HB.up hb2
   have x0:=HX.c0;have xf:=HX.f0;have xl:=HX.lt
   go_wp2_with fail
   refine vname_end ?_
   intro w3 hw3
   have HX3:At w3 qx [.slice none 0 0]:=by rw [hw3];exact HX.put1 _
   have HB3:Bel W w3:=by rw [hw3];exact HB.put HQX.out _
   clear hw3 x0 xf xl
   have x0:=HX3.c0
   first | exact bodyPost_ret (v:=.tuple #[.agg #[.slice none 0 0],.int .i64 11]) (by simp [results,Tryz.results11,go_sem,x0];done) rfl ⟨rfl,HB3⟩ | exact bodyPost_ret (v:=.tuple #[.agg #[.slice none 0 0],.int .i64 2]) (by simp [results,Tryz.results11,go_sem,x0];done) rfl ⟨rfl,HB3⟩
 have h1:¬ 256 < s.size:=fun e=>hbad (.inl e)
 have h2:goodAll (pcs s)=true:=by
  cases hg:goodAll (pcs s) with
  | true=>rfl
  | false=>exact absurd (.inr hg) hbad
 have hT:T.parse s=unitD T.names T.prefs (joinS ((pcs s).map T.sub)):=by unfold Tb.parse;rw [if_neg h1,if_pos h2]
 have CS:∀ W',Calls Tryz.prog 28 #[.string s] W' (SplitT W' (pcs s)):=fun W'=>by
  have h3:=twsplit_any (s:=s) (by omega) W'
  rw [if_pos h2] at h3
  exact h3
 have hsz:∀ y ∈ (pcs s).map T.sub,y.size≤256:=by
  intro y hy
  obtain ⟨z,hz,rfl⟩:=List.mem_map.1 hy
  unfold Tb.sub
  cases hl:lookL T.als z with
  | none=>have:=piece_le s z hz;show z.size≤256;omega
  | some a=>exact hal _ (lookL_mem hl)
 have hpl:=pcs_le s
 have hps:∀ y ∈ pcs s,y.size≤2000000:=fun y hy=>by have:=piece_le s y hy;omega
 rw [hT]
 obtain ⟨xs,hxs⟩:∃ z,pcs s=z:=⟨_,rfl⟩
 rw [hxs] at CS hsz hpl hps ⊢
 obtain ⟨n,hn⟩:∃ k,xs.length=k:=⟨_,rfl⟩
 have hnb:n≤257:=by omega
 obtain ⟨R,hR⟩:∃ z,unitD T.names T.prefs (joinS (xs.map T.sub))=z:=⟨_,rfl⟩
 have hgl:(glue 45 ((xs.map T.sub).map (·.data.toList))).length≤140737488355328:=by
  have h3:=glue_leT (b:=256) ((xs.map T.sub).map (·.data.toList)) (fun y hy=>by
   obtain ⟨z,hz,rfl⟩:=List.mem_map.1 hy
   rw [← Lib.size_eq];exact hsz z hz)
  simp only [List.length_map] at h3
  have h4:xs.length≤257:=by omega
  have h5:xs.length * (256 + 1)≤257 * 257:=Nat.mul_le_mul h4 (by omega)
  omega
 have CSx:Hid (∀ W',Calls Tryz.prog 28 #[.string s] W' (fun e w'=>e = .returned (.tuple #[.slice (some ⟨W'.heap.size,0,none⟩) n n,.int .i64 0])∧w'.heap[W'.heap.size]? = some (.cells (xs.map Value.string).toArray 9 (0,0))∧Bel W' w')):=fun W'=>by
  rw [← hn];exact CS W'
 have CJ:Hid (∀ W' g,Ss W' (some ⟨g,0,none⟩) (xs.map T.sub)→Calls Tryz.prog 31 #[.slice (some ⟨g,0,none⟩) n n] W' (StrR W' (joinS (xs.map T.sub)))):=fun W' g hss=>wjoin_any hss (by rw [← hn];simp) (Nat.le_refl _) (by omega) hgl
 obtain ⟨j,hj⟩:∃ z,joinS (xs.map T.sub)=z:=⟨_,rfl⟩
 rw [hj] at CJ hR
 have CK:Hid (∀ W',Bel W W'→Calls Tryz.prog 30 #[.pointer (some ⟨p,0,none⟩)] W' (KnR W' T)):=fun W' hb=>tknown_h (h.up hb.hid)
 obtain ⟨n1,hn1⟩:∃ k,T.ents.length=k:=⟨_,rfl⟩
 obtain ⟨n2,hn2⟩:∃ k,T.vals.length=k:=⟨_,rfl⟩
 unfold KnR at CK
 rw [hn1,hn2] at CK
 have CU:Hid (∀ W' A c B d,Ss W' A T.names→Ss W' B T.prefs→Calls Tryz.prog 29 #[.agg #[.slice A n1 c,.slice B n2 d],.string j] W' (UnitR W' R)):=fun W' A c B d h3 h4=>hR ▸ uparse_any h3 (by rw [← hn1];simp [Tb.names]) (by omega) h4 (by rw [← hn2];simp [Tb.prefs]) (by omega)
 have HN:=khide hn
 have HPS:=khide hps
 rw [hj,hR]
 clear hbad h1 h2 hT CS hsz hpl hps hxs hgl hj hR hn hn1 hn2 hl1 hl2 hal h hW1
 go_enter Tryz.func11,Tryz.ntmps11
 go_upto_region 1 with fail
 rw [← HW.out,show Value.pointer (some ⟨W.heap.size,0,none⟩)=Value.pointer (some ⟨qx,0,none⟩) by rw [hqx]]
 clear hqx HW
 go_wp2_with (first | (go_at_call 28;(with_reducible refine (CSx.out _).mono ?_);rintro e w2 ⟨rfl,hrow,hb2⟩) | fail)
 obtain ⟨gw,hgw⟩:∃ k,k=W1.heap.size:=⟨_,rfl⟩
 rw [← hgw] at hrow ⊢
 have HGW:Hid (qx < gw∧W.heap.size≤gw):=by
  have h1:=HX.lt;have h2:=HQX.out
  unfold Hid;omega
 replace HX:=HX.up hb2.hid
 have HBX:=khide (HB.up hb2.hid)
 have HXX:=khide HX
 have HRW:=khide hrow
 clear hgw hrow hb2 HX HB
 go_loopw [23] (fun iv wr=>∃ k:Nat,k≤n∧iv = .int .i64 (k:Int)∧Hid (wr.heap[gw]? = some (.cells ((mixL T.sub xs k).map Value.string).toArray 9 (0,0)))∧Hid (At wr qx [.slice none 0 0])∧Hid (Bel W wr)) (fun iv _=>n - (intOf iv).toNat)
 case atStart=>exact ⟨0,Nat.zero_le _,rfl,HRW,HXX,HBX⟩
 case round =>
  obtain ⟨k,hk,rfl,HR,HQ,HV⟩:=hrel
  have HMW:=khide (HM.out.up HV.out.hid)
  by_cases hlt:k < n
  ·obtain ⟨y,hy⟩:∃ y,xs[k]? = some y:=⟨xs[k]'(by rw [HN.out];exact hlt),List.getElem?_eq_getElem (by rw [HN.out];exact hlt)⟩
   have hys:y.size≤2000000:=HPS.out y (List.mem_of_getElem? hy)
   obtain ⟨ai,k2,hai⟩:=HMW.out.lookA hys
   have hm1:=mix_at (f:=T.sub) hy
   have hcel:wr.cell? ⟨gw,k,none⟩=some (.string y):=by
    rw [cell_of_row _ _ k _ _ (0,0) HR.out]
    simp [hm1]
   have hfr:wr.frozen? ⟨gw,k,none⟩=false:=by simp [World.frozen?,HR.out]
   have hgl:gw < wr.heap.size:=(Array.getElem?_eq_some_iff.1 HR.out).1
   obtain ⟨b2,hb2⟩:∃ b,(lookL T.als y).isSome=b:=⟨_,rfl⟩
   rw [hb2] at k2
   have q4:=HMW.out.c4;have qp:=HMW.out.lt
   have k2:=k2 wr (Turn.refl wr)
   have HY:=khide hy
   cases b2
   ·have HS0:Hid (T.sub y=y):=by
     unfold Hid Tb.sub
     cases hl:lookL T.als y with
     | none=>rfl
     | some a=>rw [hl] at hb2;cases hb2
    clear hy hys hm1 hb2 hai
    go_wp2_with fail
    go_roundw
    case rel =>
     refine ⟨k + 1,by omega,by go_num,?_,HQ.out.al _,HV.out.al _⟩
     unfold Hid
     rw [mix_same HY.out HS0.out]
     exact (Below.heap_alloc _ _ _ hgl).trans HR.out
    case measure=>simp [intOf];omega
   ·have HS0:Hid (T.sub y=ai):=by
     rw [hai]
     unfold Hid Tb.sub
     cases hl:lookL T.als y with
     | none=>rw [hl] at hb2;cases hb2
     | some a=>rfl
    clear hy hys hm1 hb2 hai
    go_wp2_with fail
    go_roundw
    case rel =>
     refine ⟨k + 1,by omega,by go_num,?_,(HQ.out.far (Nat.ne_of_gt HGW.out.1) _).al _,(HV.out.put HGW.out.2 _).al _⟩
     unfold Hid
     rw [mix_next HY.out,HS0.out]
     exact (Below.heap_alloc _ _ _ (by simpa [World.setCell] using hgl)).trans (row_set HR.out)
    case measure=>simp [intOf];omega
  ·obtain rfl:k=n:=by omega
   have hrow:wr.heap[gw]? = some (.cells ((xs.map T.sub).map Value.string).toArray 9 (0,0)):=by
    have h1:=HR.out
    rwa [mix_all (by rw [HN.out];exact Nat.le_refl _)] at h1
   have hss:Ss wr (some ⟨gw,0,none⟩) (xs.map T.sub):=fun _=>by
    refine ⟨_,rfl,(Array.getElem?_eq_some_iff.1 hrow).1,fun i z hz=>?_⟩
    have e:(⟨gw,0,none⟩:Addr).add i=⟨gw,i,none⟩:=by unfold Addr.add;split <;> simp_all
    rw [e,cell_of_row _ _ i _ _ (0,0) hrow]
    rw [List.getElem?_toArray,List.getElem?_map,hz];rfl
   have HSS:=khide hss
   have HB:=HV.out
   have HX:=HQ.out
   clear hrow hss HR
   cases R with
   | error v =>
     go_wp2_with (first
     | (go_at_call 30;(with_reducible refine (CK.out _ HB).mono ?_);rintro e w4 ⟨A1,c1,B1,d1,rfl,ha,hb,hbk⟩;replace HX:=HX.up (Bel.hid hbk);replace HB:=HB.up (Bel.hid hbk);replace HSS:=khide (HSS.out.up (Bel.hid hbk)))
     | (go_at_call 31;(with_reducible refine (CJ.out _ _ HSS.out).mono ?_);rintro e w5 ⟨rfl,hbk⟩;replace HX:=HX.up hbk;replace HB:=HB.up hbk;replace ha:=ha.up hbk;replace hb:=hb.up hbk)
     | (go_at_call 29;(with_reducible refine (CU.out _ _ _ _ _ ha hb).mono ?_);rintro e w6 ⟨rfl,hbk⟩;replace HX:=HX.up (Bel.hid hbk);replace HB:=HB.up (Bel.hid hbk);have x0:=HX.c0;have xf:=HX.f0;have xl:=HX.lt)
     | fail)
     refine vname_end ?_
     intro w7 hw7
     have HX7:At w7 qx [.slice none 0 0]:=by rw [hw7];exact HX.put1 _
     have HB7:Bel W w7:=by rw [hw7];exact HB.put HQX.out _
     clear hw7 x0 xf xl
     have x0:=HX7.c0
     refine bodyPost_ret (v:=.tuple #[.agg #[.slice none 0 0],.int .i64 v]) (by simp [results,Tryz.results11,go_sem,x0]) rfl ?_
     exact ⟨rfl,HB7⟩
   | ok ps =>
     replace CU:Hid (∀ W' A c B d,Ss W' A T.names→Ss W' B T.prefs→Calls Tryz.prog 29 #[.agg #[.slice A n1 c,.slice B n2 d],.string j] W' (fun e w'=>∃ g c,e = .returned (.tuple #[.agg #[.slice (some ⟨g,0,none⟩) ps.length c],.int .i64 0])∧ps.length≤c∧Hid (W'.heap.size≤g)∧Qs w' (some ⟨g,0,none⟩) (ps.map ofP)∧Bel W' w')):=CU
     obtain ⟨pn,hpn⟩:∃ k,ps.length=k:=⟨_,rfl⟩
     rw [hpn] at CU
     have HPN:=khide hpn
     clear hpn
     go_wp2_with (first
     | (go_at_call 30;(with_reducible refine (CK.out _ HB).mono ?_);rintro e w4 ⟨A1,c1,B1,d1,rfl,ha,hb,hbk⟩;replace HX:=HX.up (Bel.hid hbk);replace HB:=HB.up (Bel.hid hbk);replace HSS:=khide (HSS.out.up (Bel.hid hbk)))
     | (go_at_call 31;(with_reducible refine (CJ.out _ _ HSS.out).mono ?_);rintro e w5 ⟨rfl,hbk⟩;replace HX:=HX.up hbk;replace HB:=HB.up hbk;replace ha:=ha.up hbk;replace hb:=hb.up hbk)
     | (go_at_call 29;(with_reducible refine (CU.out _ _ _ _ _ ha hb).mono ?_);rintro e w6 ⟨gu,cu,rfl,hcu,hgu,hqs,hbk⟩;have hne:Hid (qx < gu∧W.heap.size≤gu∧pn≤cu):=(by have h1:=HX.lt;have h2:=hgu.out;have h3:=HB.sz;unfold Hid;omega);clear hcu hgu;replace HX:=HX.up (Bel.hid hbk);replace HB:=HB.up (Bel.hid hbk);have HQS:=khide hqs;clear hqs;have x0:=HX.c0;have xf:=HX.f0;have xl:=HX.lt)
     | fail)
     refine vname_end ?_
     intro w7 hw7
     have HX7:At w7 qx [.slice (some ⟨gu,0,none⟩) pn cu]:=by rw [hw7];exact HX.put1 _
     have HB7:Bel W w7:=by rw [hw7];exact HB.put HQX.out _
     have HQ7:Qs w7 (some ⟨gu,0,none⟩) (ps.map ofP):=by rw [hw7];exact Qs.putg HQS.out (Nat.ne_of_lt hne.out.1) x0 _
     clear hw7 x0 xf xl
     have x0:=HX7.c0
     refine bodyPost_ret (v:=.tuple #[.agg #[.slice (some ⟨gu,0,none⟩) pn cu],.int .i64 0]) (by simp [results,Tryz.results11,go_sem,x0]) rfl ?_
     refine ⟨gu,cu,by rw [HPN.out],by rw [HPN.out];exact hne.out.2.2,hne.out.2.1,HQ7,HB7⟩
end
end Go.Proofs.YtfflmmbhpchloaaGreatDoor
end
section
open Go.RowKit
namespace Go.Proofs.YtfflmmbhpchloaaGreatDoor
section
variable {A B C:Option Addr} {n c m d z e:Nat} {qs:List QL} {names ps:List ByteArray} {w:World}
end
theorem unitD_ok {names ps:List ByteArray} {s:ByteArray} {r:List PL} (h:unitD names ps s = .ok r):s.size≤256∧goodAll (pcs s)=true∧partsL names ps (cutBy andB (pcs s))=some r∧r.length≤4:=by
 unfold unitD at h
 by_cases h1:256 < s.size
 ·rw [if_pos h1] at h;cases h
 ·rw [if_neg h1] at h
  by_cases h2:goodAll (pcs s)=false
  ·rw [if_pos h2] at h;cases h
  ·rw [if_neg h2] at h
   by_cases h3:4 < (cutBy andB (pcs s)).length
   ·rw [if_pos h3] at h;cases h
   ·rw [if_neg h3] at h
    cases h4:partsL names ps (cutBy andB (pcs s)) with
    | none=>rw [h4] at h;cases h
    | some r' =>
      rw [h4] at h
      injection h with h
      subst h
      have:=partsL_len h4
      exact ⟨by omega,by simpa using h2,rfl,by omega⟩
theorem unitD_err {names ps:List ByteArray} {s:ByteArray} {v:Int} (h:unitD names ps s = .error v):v=11 ∨ v=2:=by
 unfold unitD at h
 by_cases h1:256 < s.size
 ·rw [if_pos h1] at h;injection h with h;exact .inl h.symm
 ·rw [if_neg h1] at h
  by_cases h2:goodAll (pcs s)=false
  ·rw [if_pos h2] at h;injection h with h;exact .inr h.symm
  ·rw [if_neg h2] at h
   by_cases h3:4 < (cutBy andB (pcs s)).length
   ·rw [if_pos h3] at h;injection h with h;exact .inr h.symm
   ·rw [if_neg h3] at h
    cases h4:partsL names ps (cutBy andB (pcs s)) with
    | none=>rw [h4] at h;injection h with h;exact .inr h.symm
    | some r'=>rw [h4] at h;cases h
section
variable {A B C:Option Addr} {n c m d z e:Nat} {qs:List QL} {names ps:List ByteArray} {w:World}
theorem great_show (h:Qs w C qs) (hz:z=qs.length) (hz4:z≤4) (hg:qs.any greatQ=false) (hw:∀ q ∈ qs,Good32 q.2.2):Calls Tryz.prog 17 #[.agg #[.slice C z e]] w (StrR w (unitS (qs.map toP))):=by
 have hg':∀ q ∈ qs,greatQ q=false:=fun q hq=>by simpa using List.any_eq_false.1 hg q hq
 refine ushow_any h hz (by omega) (fun q hq=>(great_fit (hg' q hq) (hw q hq)).1) ?_
 have h1:=unitN_small (ps:=qs.map toP) (m:=2670) (fun p hp=>by
  obtain ⟨q,hq,rfl⟩:=List.mem_map.1 hp
  exact (great_fit (hg' q hq) (hw q hq)).2) (qs.map toP).length
 show (unitN (qs.map toP) (qs.map toP).length).size≤_
 rw [List.length_map] at h1 ⊢
 have h2:qs.length * (2670 + 5)≤4 * (2670 + 5):=Nat.mul_le_mul_right _ (by omega)
 omega
end
theorem digs_good (v:Nat):Good32 (digs W32 v):=digs_lt (by decide) v

def AtomsOR (W:World) (l:List AL) (e:Ending) (w':World):Prop:=∃ A c,e = .returned (.slice A l.length c)∧(A=none→c=0)∧Hid (l=[]→A=none∧c=0)∧Hid (w'.ownsRow W.heap.size 166 3 (.slice A l.length c) l.length (cellsA l))∧Bel W w'
def RetAA (W:World) (p n:ByteArray) (k:Int) (e:Ending) (w':World):Prop:=e = .returned (.agg #[.string p,.string n,.int .i64 k])∧Bel W w'
end Go.Proofs.YtfflmmbhpchloaaGreatDoor
end
