/- Each theorem here says its own conditions. -/
import Derived.Test.YtfflmmbhpchloaaGreatDoorGTpwc39
set_option maxRecDepth 100000
set_option maxHeartbeats 16000000
section
open Go.RowKit Go.Shelf
namespace Go.Proofs.YtfflmmbhpchloaaGreatDoor.E
attribute [local go_sem] Oper.semAt_some
theorem ehide {p:Prop} (h:p):Hid p:=h
structure Box3 (W:World) (P:Nat) (c:UInt8) (s:ByteArray):Prop where
 text:Boxed W P 9 (.string s)
 sep:Boxed W (P + 1) 9 (.string ⟨#[c]⟩)
 save:Boxed W (P + 2) 3 (.int .i64 0)
def Keep3 (P:Nat) (V V':World):Prop:=∀ i,i < 3→V'.heap[P + i]? = V.heap[P + i]?
section
variable {V V' V'' W:World} {P:Nat} {c:UInt8} {s t:ByteArray}
theorem Keep3.trans (h:Keep3 P V V') (h':Keep3 P V' V''):Keep3 P V V'':=fun i hi=>(h' i hi).trans (h i hi)
theorem Box3.keep (h:Box3 V P c s) (hk:Keep3 P V V'):Box3 V' P c s:=⟨(hk 0 (by omega)).trans h.text,(hk 1 (by omega)).trans h.sep,(hk 2 (by omega)).trans h.save⟩
theorem Box3.set (h:Box3 V P c s) (t:ByteArray):Box3 (V.setCell ⟨P,0,none⟩ (.string t)) P c t :=
 ⟨h.text.set _,h.sep.kept (grownBy_setCell' V P _) (by simp),h.save.kept (grownBy_setCell' V P _) (by simp)⟩
def left3 (P:Nat) (W:World):Nat:=match W.cell? ⟨P,0,none⟩ with
 | some (.string s)=>s.size
 | _=>0
theorem Box3.left (h:Box3 V P c s):left3 P V=s.size:=by unfold left3;rw [h.text.cell]
end
def pieces (c:UInt8) (s:ByteArray):List ByteArray:=(cutBy c s.data.toList).map fun l=>⟨l.toArray⟩
section
variable {c:UInt8} {s:ByteArray} {i:Nat}
theorem pieces_data:(pieces c s).map (·.data.toList)=cutBy c s.data.toList:=by
 unfold pieces
 rw [List.map_map]
 conv=>rhs;rw [← List.map_id (cutBy c s.data.toList)]
 exact List.map_congr_left fun l _=>by simp
theorem bytes_eq {s t:ByteArray} (h:s.data.toList=t.data.toList):s=t:=ByteArray.ext (Array.ext' h)
theorem pieces_last (h:Lib.indexByte s.data.toList c = -1):pieces c s=[s]:=by
 have hn:c ∉ s.data.toList:=fun hm=>by
  obtain ⟨k,hk,e⟩:=List.getElem_of_mem hm
  exact Lib.indexByte_none h k (by rw [List.getElem?_eq_getElem hk,e])
 unfold pieces
 rw [cutBy_plain hn]
 rfl
theorem pieces_more (h:Lib.indexByte s.data.toList c=(i:Int)):i < s.size∧pieces c s=s.extract 0 i :: pieces c (s.extract (i + 1) s.size):=by
 obtain ⟨h1,h2⟩:=Lib.indexByte_some h
 obtain ⟨hi,h3⟩:=List.getElem?_eq_some_iff.1 h1
 have hs:i < s.size:=by rw [Lib.size_eq];exact hi
 refine ⟨hs,?_⟩
 have e0:(s.extract 0 i).data.toList=s.data.toList.take i:=by rw [Lib.extract_data,List.drop_zero,Nat.sub_zero]
 have e1:(s.extract (i + 1) s.size).data.toList=s.data.toList.drop (i + 1):=by
  rw [Lib.extract_data,List.take_of_length_le (by rw [List.length_drop,← Lib.size_eq];omega)]
 have hn:c ∉ s.data.toList.take i:=fun hm=>by
  obtain ⟨k,hk,e⟩:=List.getElem_of_mem hm
  rw [List.length_take] at hk
  rw [List.getElem_take] at e
  exact h2 k (by omega) (by rw [List.getElem?_eq_getElem (by omega),e])
 have e2:s.data.toList=s.data.toList.take i ++ c :: s.data.toList.drop (i + 1):=by
  conv=>lhs;rw [← List.take_append_drop i s.data.toList]
  rw [List.drop_eq_getElem_cons hi,h3]
 unfold pieces
 rw [e1]
 conv=>lhs;rw [e2]
 rw [cutBy_lead hn,List.map_cons,← e0]
theorem pieces_len:(pieces c s).length≤s.size + 1:=by
 unfold pieces
 rw [List.length_map,Lib.size_eq]
 exact cutBy_le _
end
theorem seq_at {n P:Nat} {c:UInt8} {s:ByteArray} {w:World} (hB:Box3 w P c s) (hs:s.size≤140737488355328) :
 SeqAt Fence.wide n Tryz.prog 191 #[.pointer (some ⟨P + 1,0,none⟩),.pointer (some ⟨P,0,none⟩),.pointer (some ⟨P + 2,0,none⟩)] P (Keep3 P) (pieces c s) w:=by
 intro l J Jx W hW hJB hY h0
 have CI:Hid (∀ (x:ByteArray) (V:World),CallsIn Fence.wide (n - 1) Tryz.prog 136 #[.string x,.string ⟨#[c]⟩] V fun e w'=>e = .returned (.int .i64 (Lib.indexByte x.data.toList c))∧w'=V):=fun x V=>callsIn_wide.2 (Tryz.strings_Index_one x c V)
 obtain ⟨N,hN⟩:∃ N,N=(pieces c s).length:=⟨_,rfl⟩
 have hB1:=hB.keep hW
 have HY:=ehide hY
 have HJ:=ehide hJB
 have hc1:=hB1.text.cell
 have hc2:=hB1.sep.cell
 refine callsIn_of_wp Tryz.func191 rfl trivial ?_ rfl
 simp only [Tryz.ntmps191,List.size_toArray,List.length_cons,List.length_nil,Nat.reduceAdd,Nat.reduceSub,Array.replicate_succ,Array.replicate_zero,List.push_toArray,List.append_toArray,List.nil_append,List.cons_append]
 gi_wp2
 gi_loopw [7,8] (fun _ _ wr=>∃ (k:Nat) (r:ByteArray),J k wr∧Box3 wr P c r∧Hid ((pieces c s).drop k=pieces c r)∧r.size≤s.size) (fun _ _ wr=>left3 P wr)
 case atStart=>exact ⟨0,s,h0,hB1,rfl,Nat.le_refl _⟩
 case round =>
  obtain ⟨k,r,hj,hb,hp,hr⟩:=hrel
  have hr1:=hb.text.cell
  have hr2:=hb.sep.cell
  have hr3:=hb.save.cell
  by_cases hi:Lib.indexByte r.data.toList c = -1
  ·have CJ:Hid (∀ (V:World),CallsIn Fence.wide (n - 1) Tryz.prog 136 #[.string r,.string ⟨#[c]⟩] V fun e w'=>e = .returned (.int .i64 (-1))∧w'=V):=fun V=>by
    have h1:=CI.out r V
    rwa [hi] at h1
   have HL:Hid (N=k + 1):=by
    have h1:=congrArg List.length hp.out
    rw [pieces_last hi,List.length_drop,List.length_singleton] at h1
    rw [hN];unfold Hid;omega
   have hx:(pieces c s)[k]? = some r:=by
    have h1:=congrArg (fun l=>l[0]?) hp.out
    rw [pieces_last hi] at h1
    simpa using h1
   obtain ⟨fn,tmps,assign,body,hy,hR⟩:=HY.out k r wr hj hx
   clear hi hx hp
   gi_wp2_with (refine ⟨trivial,fun h=>(by cases h),?_⟩;gi_at_call 136;refine (CJ.out _).mono ?_;rintro e w' ⟨rfl,rfl⟩)
   refine ⟨fun h=>(by cases h),hR.mono ?_⟩
   rintro e W3 (⟨rfl,hJ3,hk3⟩ | ⟨rfl,hJx3⟩)
   ·gi_wp2
    go_end0
    exact ⟨⟨_,rfl⟩,.inl (by rw [← hN,HL.out];exact hJ3)⟩
   ·gi_wp2
    go_end0
    exact ⟨⟨_,rfl⟩,.inr ⟨k + 1,by rw [← hN,HL.out];exact Nat.le_refl _,hJx3⟩⟩
  ·obtain ⟨i,hi2⟩:∃ i:Nat,Lib.indexByte r.data.toList c=(i:Int):=⟨(Lib.indexByte r.data.toList c).toNat,by have:=Lib.indexByte_ge r.data.toList c;omega⟩
   obtain ⟨hlt,hpc⟩:=pieces_more hi2
   have CJ:Hid (∀ (V:World),CallsIn Fence.wide (n - 1) Tryz.prog 136 #[.string r,.string ⟨#[c]⟩] V fun e w'=>e = .returned (.int .i64 (i:Int))∧w'=V):=fun V=>by
    have h1:=CI.out r V
    rwa [hi2] at h1
   have hx:(pieces c s)[k]? = some (r.extract 0 i):=by
    have h1:=congrArg (fun l=>l[0]?) hp.out
    rw [hpc] at h1
    simpa using h1
   have HP2:Hid ((pieces c s).drop (k + 1)=pieces c (r.extract (i + 1) r.size)):=by
    have h1:=congrArg (fun l=>l.drop 1) hp.out
    rw [hpc] at h1
    unfold Hid
    simpa [List.drop_drop,Nat.add_comm] using h1
   have HKL:Hid (k + 1≤N):=by
    have:=(List.getElem?_eq_some_iff.1 hx).1
    rw [hN];unfold Hid;omega
   obtain ⟨fn,tmps,assign,body,hy,hR⟩:=HY.out k _ wr hj hx
   have hsz:(r.extract (i + 1) r.size).size≤s.size:=by rw [Lib.size_eq,Lib.extract_data,List.length_take];omega
   have hle:left3 P wr=r.size:=hb.left
   have d0:decide ((i:Int) < 0)=false:=decide_eq_false (by omega)
   clear hi hi2 hx hp hpc
   gi_wp2_with (refine ⟨trivial,fun h=>(by cases h),?_⟩;gi_at_call 136;refine (CJ.out _).mono ?_;rintro e w' ⟨rfl,rfl⟩)
   refine ⟨fun h=>(by cases h),hR.mono ?_⟩
   rintro e W3 (⟨rfl,hJ3,hk3⟩ | ⟨rfl,hJx3⟩)
   ·have hb3:=hb.keep hk3
    have ht1:=hb3.text.cell
    have ht2:=hb3.sep.cell
    have hf1:=hb3.text.frozen
    have w1:IntKind.i64.wrap ((i:Int) + 1)=(i:Int) + 1:=IntWalk.i64_in _ (by omega)
    gi_wp2
    go_roundw
    case rel =>
     refine ⟨k + 1,_,HJ.out _ _ _ hJ3,hb3.set _,?_,hsz⟩
     exact HP2
    case measure =>
     rw [hle,(hb3.set _).left,Lib.size_eq,Lib.extract_data,List.length_take,List.length_drop,← Lib.size_eq]
     omega
   ·gi_wp2
    refine bodyPost_ret (results_none rfl _ _ _) rfl ?_
    exact ⟨⟨_,rfl⟩,.inr ⟨k + 1,by rw [← hN];exact HKL.out,hJx3⟩⟩
attribute [local go_sem] Oper.semAt_some
def wordsIn (ps:List ByteArray):List ByteArray:=(ps.takeWhile fun p=>!(p.data.toList.head? == some 35)).filter fun p=>!(p.data.toList == [])
def isRemark (p:ByteArray):Bool:=p.data.toList.head? == some 35
section
variable {ps:List ByteArray} {k:Nat} {p:ByteArray}
theorem wordsIn_snoc (h:∀ q ∈ ps,isRemark q=false):wordsIn (ps ++ [p])=if isRemark p=true ∨ p.data.toList=[] then wordsIn ps else wordsIn ps ++ [p]:=by
 have h1:∀ q ∈ ps,(!(q.data.toList.head? == some 35))=true:=fun q hq=>by have:=h q hq;unfold isRemark at this;rw [this];rfl
 unfold wordsIn
 rw [List.takeWhile_append_of_pos h1]
 have h2:ps.takeWhile (fun p=>!(p.data.toList.head? == some 35))=ps:=by
  have:=List.takeWhile_append_of_pos (l₂:=[]) h1
  simpa using this
 rw [h2,List.filter_append]
 by_cases hr:isRemark p=true
 ·rw [if_pos (.inl hr)]
  unfold isRemark at hr
  simp [List.takeWhile,hr]
 ·have hr':(p.data.toList.head? == some 35)=false:=by unfold isRemark at hr;simpa using hr
  by_cases he:p.data.toList=[]
  ·rw [if_pos (.inr he)]
   have he':p.data = #[]:=by simpa using he
   simp [List.takeWhile,hr',he']
  ·rw [if_neg (by intro h;rcases h with h | h;(· exact hr h);(· exact he h))]
   have he':¬ p.data = #[]:=fun h=>he (by rw [h])
   simp [List.takeWhile,hr',he']
theorem wordsIn_stop {qs:List ByteArray} (h:∀ q ∈ ps,isRemark q=false) (hp:isRemark p=true):wordsIn (ps ++ p :: qs)=wordsIn ps:=by
 have h1:∀ q ∈ ps,(!(q.data.toList.head? == some 35))=true:=fun q hq=>by have:=h q hq;unfold isRemark at this;rw [this];rfl
 unfold wordsIn
 rw [List.takeWhile_append_of_pos h1]
 have h2:ps.takeWhile (fun p=>!(p.data.toList.head? == some 35))=ps:=by
  have:=List.takeWhile_append_of_pos (l₂:=[]) h1
  simpa using this
 unfold isRemark at hp
 rw [h2]
 simp [List.takeWhile,hp]
theorem remark_prefix (p:ByteArray):Lib.hasPrefix p.data.toList (⟨#[35]⟩:ByteArray).data.toList=isRemark p:=by
 unfold Lib.hasPrefix isRemark
 cases h:p.data.toList with
 | nil=>rfl
 | cons a l =>
   have h1:([35]:List UInt8).isPrefixOf (a :: l)=(35 == a):=by simp [List.isPrefixOf]
   have h2:((35:UInt8) == a)=(a == 35):=by rw [Bool.eq_iff_iff,beq_iff_eq,beq_iff_eq];exact eq_comm
   exact h1.trans h2
theorem wordsIn_le:(wordsIn ps).length≤ps.length:=Nat.le_trans (List.length_filter_le _ _) (List.takeWhile_sublist _).length_le
end
def wordsB (s:ByteArray):List ByteArray:=wordsIn (pieces 32 s)
theorem splitseq_in {s:ByteArray} (n:Nat) (w:World) :
 CallsIn Fence.wide n Tryz.prog 93 #[.string s,.string ⟨#[32]⟩] w fun e w'=>e = .returned (.func (.func 191) #[] #[.pointer (some ⟨w.heap.size + 1,0,none⟩),.pointer (some ⟨w.heap.size,0,none⟩),.pointer (some ⟨w.heap.size + 1 + 1,0,none⟩)])∧w'=((w.alloc (.cells #[.string s] 9)).alloc (.cells #[.string ⟨#[32]⟩] 9)).alloc (.cells #[.int .i64 0] 3):=by
 have CS:Hid (∀ V:World,CallsIn Fence.wide (n - 1) Tryz.prog 137 #[.string s,.string ⟨#[32]⟩,.int .i64 0] V fun e w'=>e = .returned (.func (.func 191) #[] #[.pointer (some ⟨V.heap.size + 1,0,none⟩),.pointer (some ⟨V.heap.size,0,none⟩),.pointer (some ⟨V.heap.size + 1 + 1,0,none⟩)])∧w'=((V.alloc (.cells #[.string s] 9)).alloc (.cells #[.string ⟨#[32]⟩] 9)).alloc (.cells #[.int .i64 0] 3)):=fun V=>by
  refine callsIn_of_wp Tryz.func137 rfl trivial ?_ rfl
  simp only [Tryz.ntmps137,List.size_toArray,List.length_cons,List.length_nil,Nat.reduceAdd,Nat.reduceSub,Array.replicate_succ,Array.replicate_zero,List.push_toArray,List.append_toArray,List.nil_append,List.cons_append]
  gi_wp2
  go_ret
  exact ⟨rfl,rfl⟩
 refine callsIn_of_wp Tryz.func93 rfl trivial ?_ rfl
 simp only [Tryz.ntmps93,List.size_toArray,List.length_cons,List.length_nil,Nat.reduceAdd,Nat.reduceSub,Array.replicate_succ,Array.replicate_zero,List.push_toArray,List.append_toArray,List.nil_append,List.cons_append]
 gi_wp2_with (refine ⟨trivial,fun h=>(by cases h),?_⟩;gi_at_call 137;refine (CS.out _).mono ?_;rintro e w' ⟨rfl,hw⟩;rw [hw])
 go_ret
 exact ⟨rfl,rfl⟩
theorem infoStrE:(Tryz.prog.info? 9).map (fun i=>(i.zero,i.size,i.bytes))=some (some (.string ByteArray.empty),1,16):=by kernel_rfl
def WordsR (w:World) (s:ByteArray) (e:Ending) (w':World):Prop :=
 ∃ A c,e = .returned (.slice A (wordsB s).length c)∧(A=none→c=0)∧Hid (w'.ownsRow w.heap.size 9 1 (.slice A (wordsB s).length c) (wordsB s).length ((wordsB s).map Value.string))∧Hid (Below w.heap.size w w')
section
variable {W w1:World} {base base' B k m:Nat} {t e:TypeId} {v v':Value} {xs ys:List Value} {tmp:Obj}
theorem own_less {sz:Nat} (h:W.ownsRow base e sz v k xs) (hb:base'≤base):W.ownsRow base' e sz v k xs :=
 ⟨h.1,h.2.imp id fun ⟨g,cap,cur,a,b,c⟩=>⟨g,cap,cur,a,by omega,c⟩⟩
theorem collected (hv:Boxed W B t v) (hte:t ≠ e) (hrow:W.ownsRow base e 1 v k xs) (hn:base≤W.heap.size) (hB:base'≤B) (hb:base'≤base)
 (hown':w1.ownsRow base e 1 v' m ys) (hgrow:(W.alloc tmp).grownBy w1 v.ownBlock) :
 Boxed w1 B t v∧Boxed (w1.setCell ⟨B,0,none⟩ v') B t v'∧(w1.setCell ⟨B,0,none⟩ v').ownsRow base e 1 v' m ys∧KeepsOthers W (w1.setCell ⟨B,0,none⟩ v')∧Below base' W (w1.setCell ⟨B,0,none⟩ v') ∧
 ∀ i,i < base→i ≠ B→(w1.setCell ⟨B,0,none⟩ v').heap[i]? = W.heap[i]?:=by
 obtain ⟨h1,h2,_,h4,h5⟩:=hv.appended hte (own_less hrow hb) (by omega) hB (own_less hown' hb) hgrow
 refine ⟨h1,h2,hown'.kept (grownBy_setCell' w1 B v') (.inr (h1.not_row hte hown').symm),h4,h5,fun i hi hne=>?_⟩
 have hs:(W.alloc tmp).heap.size=W.heap.size + 1:=by simp
 refine (Below.heap_setCell _ _ _ i (by show i ≠ B;exact hne)).trans ((hgrow.block i (by omega) (fun e'=>?_)).trans (Below.heap_alloc W tmp i (by omega)))
 have:=(hrow.lt i e'.symm).1
 omega
end
section
variable {V V':World} {row:Option Nat} {B M n base b:Nat} {t e:TypeId} {v u:Value} {xs:List Value}
theorem held_own (hv:Boxed V B t v) (hr:V.ownsRow base e 1 v n xs) (hg:V.grownBy V' row) (hrow:∀ r,row=some r→M≤r ∧ ∃ o:Obj,V.heap[r]? = some o∧o.isCells=false) (hB:B < M):Boxed V' B t v∧V'.ownsRow base e 1 v n xs:=by
 refine ⟨hv.kept hg fun h=>?_,hr.kept hg ?_⟩
 ·have:=(hrow _ h.symm).1;omega
 ·rcases hr.2 with ⟨rfl,_⟩ | ⟨g,cap,cur,rfl,_,hgb,_⟩
  ·exact .inl rfl
  ·refine .inr fun h=>?_
   obtain ⟨_,o,ho,hc⟩:=hrow g (by simpa [Value.ownBlock] using h.symm)
   rw [hgb] at ho;cases ho;cases hc
theorem held_set (hv:Boxed V B t v) (hr:V.ownsRow base e 1 v n xs) (h1:B ≠ b) (h2:b < base) (u:Value):Boxed (V.setCell ⟨b,0,none⟩ u) B t v∧(V.setCell ⟨b,0,none⟩ u).ownsRow base e 1 v n xs:=by
 refine ⟨hv.kept (grownBy_setCell' V b u) (by simpa using h1),hr.kept (grownBy_setCell' V b u) ?_⟩
 cases hk:v.ownBlock with
 | none=>exact .inl rfl
 | some k =>
   right
   have:=(hr.lt k hk).1
   simp;omega
end
theorem words_end {w V:World} {s:ByteArray} {v:Value} {D base:Nat} {o:Obj} (hrow:V.ownsRow base 9 1 v (wordsB s).length ((wordsB s).map Value.string)) (hB:Below w.heap.size w V) (hD:w.heap.size≤D) (hK:V.heap[D]? = some o) (ho:o.isCells=false) (o':Obj) (hb:w.heap.size≤base) :
 WordsR w s (.returned v) (V.putObj D o'):=by
 have h1:=ownsRow_putObj hrow o' hK ho
 have hB1:Hid (Below w.heap.size w (V.putObj D o')):=hB.grown (grownBy_putObj' V D o') hB.size (fun k e=>by cases e;exact hD)
 rcases h1.2 with ⟨rfl,h0⟩ | ⟨g,cap,cur,rfl,_⟩
 ·exact ⟨none,0,by rw [h0],fun _=>rfl,by rw [h0] at h1 ⊢;exact own_less h1 hb,hB1⟩
 ·exact ⟨_,cap,rfl,(fun h=>by cases h),own_less h1 hb,hB1⟩
theorem wordsOf_any {s:ByteArray} (hs:s.size≤70000) (w:World):Calls Tryz.prog 54 #[.string s] w (WordsR w s):=by
 refine (callsIn_wide (n:=9)).1 ?_
 obtain ⟨i0,hi,hz0,hz1,hz2⟩:=info_parts infoStrE
 have CS:Hid (∀ V:World,CallsIn Fence.wide 8 Tryz.prog 93 #[.string s,.string ⟨#[32]⟩] V fun e w'=>e = .returned (.func (.func 191) #[] #[.pointer (some ⟨V.heap.size + 1,0,none⟩),.pointer (some ⟨V.heap.size,0,none⟩),.pointer (some ⟨V.heap.size + 1 + 1,0,none⟩)])∧w'=((V.alloc (.cells #[.string s] 9)).alloc (.cells #[.string ⟨#[32]⟩] 9)).alloc (.cells #[.int .i64 0] 3)):=fun V=>splitseq_in 8 V
 refine callsIn_of_wp_marks Tryz.func54 rfl trivial ?_ rfl
 simp only [Tryz.ntmps54,List.size_toArray,List.length_cons,List.length_nil,Nat.reduceAdd,Nat.reduceSub,Array.replicate_succ,Array.replicate_zero,List.push_toArray,List.append_toArray,List.nil_append,List.cons_append]
 gi_wp2_with (refine ⟨trivial,?_⟩;gi_at_call 93;refine (CS.out _).mono ?_;rintro e w' ⟨rfl,hw⟩;rw [hw];clear hw)
 obtain ⟨W0,hW0⟩:∃ W0,W0=(((w.alloc (.cells #[.slice none 0 0] 60)).alloc (.cells #[.string s] 9)).alloc (.cells #[.string ⟨#[32]⟩] 9)).alloc (.cells #[.int .i64 0] 3):=⟨_,rfl⟩
 rw [← hW0]
 have hsz:W0.heap.size=w.heap.size + 4:=by rw [hW0];simp
 have b0:Boxed W0 w.heap.size 60 (.slice none 0 0):=by rw [hW0];exact (((Boxed.new w _ _).alloc _).alloc _).alloc _
 have b3:Box3 W0 (w.heap.size + 1) 32 s:=by
  have h1:=((Boxed.new (w.alloc (.cells #[.slice none 0 0] 60)) 9 (.string s)).alloc (.cells #[.string ⟨#[32]⟩] 9)).alloc (.cells #[.int .i64 0] 3)
  have h2:=(Boxed.new ((w.alloc (.cells #[.slice none 0 0] 60)).alloc (.cells #[.string s] 9)) 9 (.string ⟨#[32]⟩)).alloc (.cells #[.int .i64 0] 3)
  have h3:=Boxed.new (((w.alloc (.cells #[.slice none 0 0] 60)).alloc (.cells #[.string s] 9)).alloc (.cells #[.string ⟨#[32]⟩] 9)) 3 (.int .i64 0)
  simp only [World.size_alloc] at h1 h2 h3
  rw [hW0]
  exact ⟨h1,h2,h3⟩
 have hB0:Below w.heap.size w W0:=by rw [hW0];exact ((((Below.refl _ w).alloc (Nat.le_refl _) _).alloc (by simp) _).alloc (by simp;omega) _).alloc (by simp;omega) _
 clear hW0 CS
 obtain ⟨xs,hxs⟩:∃ xs,xs=pieces 32 s:=⟨_,rfl⟩
 have hSQ:=seq_at (n:=8) b3 (by omega)
 rw [← hxs] at hSQ
 have HXS:=ehide hxs
 have HLEN:Hid (xs.length≤70001):=by
  have:=pieces_len (c:=32) (s:=s)
  rw [hxs];unfold Hid;omega
 clear hxs
 refine wpIn_range_at (gf:=191) (lb:=#[.pointer (some ⟨w.heap.size + 1 + 1,0,none⟩),.pointer (some ⟨w.heap.size + 1,0,none⟩),.pointer (some ⟨w.heap.size + 1 + 1 + 1,0,none⟩)]) rfl (by decide) rfl trivial (enters_of Tryz.func191 (by kernel_rfl) rfl) (B:=w.heap.size + 1) (by omega) (Kp:=Keep3 (w.heap.size + 1)) (xs:=xs) hSQ rfl
  (fun V V' h i hi=>h _ (by omega)) (fun h h'=>h.trans h')
  (fun k V=>(∀ q ∈ xs.take k,isRemark q=false)∧(∃ v,Boxed V w.heap.size 60 v∧V.ownsRow (w.heap.size + 4) 9 1 v (wordsIn (xs.take k)).length ((wordsIn (xs.take k)).map Value.string))∧Below w.heap.size w V)
  (fun c _ V=>c = .exit 0∧(∃ v,Boxed V w.heap.size 60 v∧V.ownsRow (w.heap.size + 4) 9 1 v (wordsB s).length ((wordsB s).map Value.string))∧Below w.heap.size w V)
  ?hI ?hIx ?hIB ⟨by simp,⟨_,b0,World.ownsRow_nil _ _ _ _⟩,hB0⟩
  (fun x=>{ tmps:=#[.string s,undef,.slice none 0 0,.pointer (some ⟨w.heap.size,0,none⟩),.string x,.string s,.func (.func 191) #[] #[.pointer (some ⟨w.heap.size + 1 + 1,0,none⟩),.pointer (some ⟨w.heap.size + 1,0,none⟩),.pointer (some ⟨w.heap.size + 1 + 1 + 1,0,none⟩)],.string x,undef,undef,undef,undef,undef,undef,undef,undef,undef],defers:=[] }) ?assign ?body ?done ?stop
 case hI =>
  rintro k V V' row ⟨h1,⟨v,hv,hr⟩,hB⟩ hg hrow
  obtain ⟨h2,h3⟩:=held_own hv hr hg hrow (by omega)
  exact ⟨h1,⟨v,h2,h3⟩,hB.grown hg hB.size (fun r e=>by have:=(hrow r e).1;omega)⟩
 case hIx =>
  rintro c k V V' row ⟨h1,⟨v,hv,hr⟩,hB⟩ hg hrow
  obtain ⟨h2,h3⟩:=held_own hv hr hg hrow (by omega)
  exact ⟨h1,⟨v,h2,h3⟩,hB.grown hg hB.size (fun r e=>by have:=(hrow r e).1;omega)⟩
 case hIB =>
  rintro k V u ⟨h1,⟨v,hv,hr⟩,hB⟩
  obtain ⟨h2,h3⟩:=held_set hv hr (b:=w.heap.size + 1) (by omega) (by omega) u
  exact ⟨h1,⟨v,h2,h3⟩,hB.setCell (p:=⟨w.heap.size + 1,0,none⟩) (by show w.heap.size≤w.heap.size + 1;omega) _⟩
 case assign =>
  intro l x V K hK
  gi_wp2
  exact hK
 case body =>
  rintro l k x V ⟨hrem,⟨v,hv,hrow⟩,hB⟩ hx hVs
  obtain ⟨b,hb⟩:∃ b,isRemark x=b:=⟨_,rfl⟩
  have CP:Hid (∀ V:World,CallsIn Fence.wide 6 Tryz.prog 94 #[.string x,.string ⟨#[35]⟩] V fun e w'=>e = .returned (.bool b)∧w'=V):=fun V=>by
   have h1:=Tryz.strings_HasPrefix x ⟨#[35]⟩ V
   rw [remark_prefix,hb] at h1
   exact callsIn_wide.2 h1
  have hxk:=(List.getElem?_eq_some_iff.1 hx).1
  have htk:xs.take (k + 1)=xs.take k ++ [x]:=by
   rw [List.take_succ_eq_append_getElem hxk,(List.getElem?_eq_some_iff.1 hx).2]
  have hc:=hv.cell
  cases b
  ·have hn:∀ q ∈ xs.take (k + 1),isRemark q=false:=by
    rw [htk];intro q hq
    rcases List.mem_append.1 hq with hq | hq
    ·exact hrem q hq
    ·rw [List.mem_singleton.1 hq];exact hb
   have hwi:=wordsIn_snoc (p:=x) hrem
   rw [← htk] at hwi
   by_cases he:x.data.toList=[]
   ·rw [if_pos (.inr he)] at hwi
    obtain rfl:x=⟨#[]⟩:=bytes_eq he
    clear hx hb
    gi_wp2_with (refine ⟨trivial,?_⟩;gi_at_call 94;refine (CallsIn.inRound l (CP.out _)).mono ?_;rintro e w' ⟨rfl,rfl⟩)
    exact ⟨KeepsOthers.refl _,fun _ _=>rfl,hn,⟨v,hv,by rw [hwi];exact hrow⟩,hB⟩
   ·rw [if_neg (fun h=>h.elim (fun h=>by rw [hb] at h;cases h) he)] at hwi
    have hl:x.toList.isEmpty=false:=by
     rw [Lib.toList_data]
     cases h:x.data.toList with
     | nil=>exact absurd h he
     | cons a l=>rfl
    have hwl:(wordsIn (xs.take k)).length≤70001:=by
     have h1:=wordsIn_le (ps:=xs.take k)
     have h2:(xs.take k).length≤xs.length:=by rw [List.length_take];omega
     have h3:=HLEN.out
     omega
    clear hx hb he
    gi_wp2_with (first | (refine ⟨trivial,?_⟩;gi_at_call 94;refine (CallsIn.inRound l (CP.out _)).mono ?_;rintro e w' ⟨rfl,rfl⟩) | (gi_at_builtin;refine wpListIn_append_own _ rfl _ _ 60 rfl (w.heap.size + 4) 9 i0 (.string ByteArray.empty) 1 16 Tryz.underlying60 hi hz0 hz1 hz2 rfl (by decide) _ _ _ rfl (hrow.alloc _) ⟨w'.heap.size,0,none⟩ 1 1 [.string x] rfl rfl (cell_one_new _ _ _) (by simp [Value.oneCell']) (by simp only [maxLen];omega) (by omega) (by simp;omega) ?_;intro v' w1 hown' hgrow _;obtain ⟨g',cap',rfl⟩:=ownsRow_succ hown';obtain ⟨hv1,hv2,hr2,hk2,hb2,hl2⟩:=collected hv (by decide) hrow (by omega) (Nat.le_refl w.heap.size) (by omega) hown' hgrow;have hc1:=hv1.cell;have hf1:=hv1.frozen))
    exact ⟨hk2,fun i hi=>hl2 _ (by omega) (by omega),hn,⟨_,hv2,by rw [hwi];simpa using hr2⟩,hB.trans hb2⟩
  ·have hw:wordsB s=wordsIn (xs.take k):=by
    have h1:xs=xs.take k ++ x :: xs.drop (k + 1):=by
     conv=>lhs;rw [← List.take_append_drop k xs]
     rw [List.drop_eq_getElem_cons hxk,(List.getElem?_eq_some_iff.1 hx).2]
    unfold wordsB
    rw [← HXS.out]
    conv=>lhs;rw [h1]
    exact wordsIn_stop hrem hb
   clear hx hb htk
   gi_wp2_with (refine ⟨trivial,?_⟩;gi_at_call 94;refine (CallsIn.inRound l (CP.out _)).mono ?_;rintro e w' ⟨rfl,rfl⟩)
   exact ⟨KeepsOthers.refl _,rfl,⟨v,hv,by rw [hw];exact hrow⟩,hB⟩
 case done =>
  rintro D V hD ⟨hrem,⟨v,hv,hrow⟩,hB⟩ hK
  have hw:wordsIn (xs.take xs.length)=wordsB s:=by rw [List.take_length];unfold wordsB;rw [← HXS.out]
  rw [hw] at hrow
  have hc:=hv.cell
  gi_wp2
  refine ⟨by simp,.inl ⟨_,_,rfl,run_takeDeferred hK,?_⟩⟩
  refine ⟨_,results_tmp rfl _ _ _,?_⟩
  exact words_end hrow hB (by omega) hK rfl _ (by omega)
 case stop =>
  rintro D c k V hD ⟨rfl,⟨v,hv,hrow⟩,hB⟩ hK
  have hc:=hv.cell
  gi_wp2
  refine ⟨by simp,.inl ⟨_,_,rfl,run_takeDeferred hK,?_⟩⟩
  refine ⟨_,results_tmp rfl _ _ _,?_⟩
  exact words_end hrow hB (by omega) hK rfl _ (by omega)
theorem map_data_inj {xs ys:List ByteArray} (h:xs.map (·.data.toList)=ys.map (·.data.toList)):xs=ys:=by
 induction xs generalizing ys with
 | nil=>cases ys with
   | nil=>rfl
   | cons y ys=>simp at h
 | cons x xs ih=>cases ys with
   | nil=>simp at h
   | cons y ys =>
     simp only [List.map_cons,List.cons.injEq] at h
     rw [ih h.2,ByteArray.ext (Array.ext' h.1)]
theorem splitB_pieces (c:UInt8) (s:ByteArray):Lib.splitB ⟨#[c]⟩ 0 (Lib.countB s ⟨#[c]⟩) s=pieces c s:=by
 refine map_data_inj ?_
 rw [pieces_data,Lib.splitB_data]
 exact split_cut c s.data.toList
theorem pieces_count (c:UInt8) (s:ByteArray):(pieces c s).length=Lib.countB s ⟨#[c]⟩ + 1:=by
 rw [← splitB_pieces]
 exact Lib.splitB_all ⟨#[c]⟩ (Nat.le_refl 1) 0 _ s rfl
def StrsR (W:World) (xs:List ByteArray) (e:Ending) (w':World):Prop:=∃ ad c,e = .returned (.slice (some ad) xs.length c)∧xs.length≤c∧Ss w' (some ad) xs∧Hid (Below W.heap.size W w')
theorem gensplit_c (c:UInt8) (s:ByteArray) (w:World) (hs:s.size≤1000000):Calls Tryz.prog 92 #[.string s,.string ⟨#[c]⟩,.int .i64 0,.int .i64 (-1)] w fun e w' =>
 e = .returned (.slice (some ⟨w.heap.size,0,none⟩) (pieces c s).length (pieces c s).length)∧w'=w.alloc (.cells ((pieces c s).map Value.string).toArray 9):=by
 have hle:=Lib.countB_le ⟨#[c]⟩ (show 1≤(⟨#[c]⟩:ByteArray).size from Nat.le_refl 1) s.size s (Nat.le_refl _)
 have hlen:=pieces_count c s
 have hsp:=splitB_pieces c s
 have c1:=Any.strings_genSplit_core Tryz.lays221 (by kernel_rfl) s ⟨#[c]⟩ 0 (-1) (Lib.countB s ⟨#[c]⟩ + 1) w (by omega) (Nat.le_refl 1) (Nat.zero_le _)
  (fun x cs hx=>(Tryz.strings_Index_one x c _).mono fun e w' ⟨he,hw⟩=>⟨by rw [he,← Lib.index_one],hw⟩)
  ((Tryz.strings_Count_one s c w).mono fun e w' ⟨he,hw⟩=>⟨by rw [he,show Lib.countB s ⟨#[c]⟩=Lib.countByte s.data.toList c from Lib.count_one c s.data.toList],hw⟩)
  (by decide) (by decide) (by rw [if_pos (by decide)];omega)
 rw [Nat.add_sub_cancel,hsp,← hlen] at c1
 rw [Lib.cellsOf_full] at c1
 exact c1
theorem pieces_ss (w:World) (xs:List ByteArray) (t:TypeId):Ss (w.alloc (.cells (xs.map Value.string).toArray t)) (some ⟨w.heap.size,0,none⟩) xs:=fun _=>by
 refine ⟨_,rfl,by simp,fun j x hx=>?_⟩
 have h:=Lib.pieces_cell_at w xs t j x hx
 have e:(⟨w.heap.size,0,none⟩:Addr).add j=⟨w.heap.size,j,none⟩:=by unfold Addr.add;split <;> simp_all
 rw [e];exact h
theorem ssplit_c {c:UInt8} {s:ByteArray} {xs:List ByteArray} (hx:pieces c s=xs) (w:World) (hs:s.size≤1000000):Calls Tryz.prog 53 #[.string s,.string ⟨#[c]⟩] w (StrsR w xs):=by
 have CH:Hid (∀ W,Calls Tryz.prog 92 #[.string s,.string ⟨#[c]⟩,.int .i64 0,.int .i64 (-1)] W fun e w'=>e = .returned (.slice (some ⟨W.heap.size,0,none⟩) xs.length xs.length)∧w'=W.alloc (.cells (xs.map Value.string).toArray 9)):=fun W=>by
  rw [← hx];exact gensplit_c c s W hs
 have HX:Hid (StrsR w xs (.returned (.slice (some ⟨w.heap.size,0,none⟩) xs.length xs.length)) (w.alloc (.cells (xs.map Value.string).toArray 9))) :=
  ⟨_,_,rfl,Nat.le_refl _,pieces_ss _ _ _,(Below.refl _ _).alloc (Nat.le_refl _) _⟩
 clear hs hx
 go_enter Tryz.func53,Tryz.ntmps53
 go_wp2_with (first | (go_at_call 92;(with_reducible refine (CH.out _).mono ?_);rintro e w1 ⟨rfl,hw1⟩;rw [hw1]) | fail)
 go_ret
 exact HX.out
theorem ybool {a b:Bool} (h:a=b):Ending.returned (.bool a) = .returned (.bool b):=by rw [h]
def plainC (c:UInt8):Bool:=decide (32≤c.toNat) && decide (c.toNat≤126)
def plainB (s:ByteArray):Bool:=s.data.toList.all plainC
theorem pl_take {s:ByteArray} {k:Nat} (h:k < s.size):(s.data.toList.take (k + 1)).all plainC=((s.data.toList.take k).all plainC && plainC s[k]):=by
 have e:s.data.toList.take (k + 1)=s.data.toList.take k ++ [s[k]]:=by
  rw [List.take_succ_eq_append_getElem (by simpa using h)];rfl
 rw [e,List.all_append];simp
theorem pl_false {s:ByteArray} {k:Nat} (h:k < s.size) (hp:plainC s[k]=false):plainB s=false:=by
 unfold plainB
 rw [List.all_eq_false]
 refine ⟨s[k],?_,by rw [hp];simp⟩
 exact List.getElem_mem (l:=s.data.toList) (n:=k) (by simpa using h)
theorem isPlain_any {s:ByteArray} {b:Bool} (hb:plainB s=b) (hs:s.size≤1000000) (w:World):Calls Tryz.prog 55 #[.string s] w fun e w'=>e = .returned (.bool b)∧w=w':=by
 have HB:=ehide hb
 clear hb
 go_enter Tryz.func55,Tryz.ntmps55
 go_wp2
 go_loop [6] (fun iv=>∃ k:Nat,k≤s.size∧iv = .int .i64 (k:Int)∧Hid ((s.data.toList.take k).all plainC=true)) (fun iv=>s.size - (intOf iv).toNat)
 case atStart=>exact ⟨0,Nat.zero_le _,rfl,rfl⟩
 case round =>
  obtain ⟨k,hk,rfl,hall⟩:=hrel
  by_cases hlt:k < s.size
  ·have HT:=ehide (pl_take hlt)
   have HF:=ehide (pl_false hlt)
   by_cases h1:s[k].toNat < 32
   ·have d1:decide ((s[k].toNat:Int) < 32)=true:=decide_eq_true (by omega)
    have HP:Hid (plainC s[k]=false):=by unfold plainC Hid;rw [decide_eq_false (by omega)];rfl
    clear h1
    go_wp2
    go_ret
    exact ⟨ybool (by rw [← HB.out,HF.out HP.out]),rfl⟩
   ·have d1:decide ((s[k].toNat:Int) < 32)=false:=decide_eq_false (by omega)
    by_cases h2:126 < s[k].toNat
    ·have d2:decide ((126:Int) < (s[k].toNat:Int))=true:=decide_eq_true (by omega)
     have HP:Hid (plainC s[k]=false):=by unfold plainC Hid;rw [decide_eq_false (show ¬ s[k].toNat≤126 by omega)];simp
     clear h1 h2
     go_wp2
     go_ret
     exact ⟨ybool (by rw [← HB.out,HF.out HP.out]),rfl⟩
    ·have d2:decide ((126:Int) < (s[k].toNat:Int))=false:=decide_eq_false (by omega)
     have HP:Hid (plainC s[k]=true):=by unfold plainC Hid;rw [decide_eq_true (show s[k].toNat≤126 by omega),decide_eq_true (show 32≤s[k].toNat by omega)];rfl
     clear h1 h2
     go_wp2
     go_round
     case rel=>exact ⟨k + 1,by omega,by go_num,by unfold Hid;rw [HT.out,hall.out,HP.out];rfl⟩
     case measure=>simp [intOf];omega
  ·obtain rfl:k=s.size:=by omega
   have HE:Hid (plainB s=true):=by
    have h3:=hall.out
    rwa [List.take_of_length_le (by rw [Lib.size_eq];exact Nat.le_refl _)] at h3
   go_wp2
   go_ret
   exact ⟨ybool (by rw [← HB.out,HE.out]),rfl⟩
end Go.Proofs.YtfflmmbhpchloaaGreatDoor.E
end
section
open Go.RowKit
namespace Go.Proofs.YtfflmmbhpchloaaGreatDoor.E
abbrev TRow:=Nat × List ByteArray
def rowsOf:Nat→Nat→List ByteArray→List TRow × Nat × Nat
 | _,_,[]=>([],0,0)
 | i,k,l :: ls=>if plainB l=false ∨ 24 < (wordsB l).length then ([],i + 1,2) else if wordsB l=[] then rowsOf (i + 1) k ls else if k=2000 then ([],i + 1,11) else
    if (rowsOf (i + 1) (k + 1) ls).2.2=0 then ((i + 1,wordsB l) :: (rowsOf (i + 1) (k + 1) ls).1,0,0) else ([],(rowsOf (i + 1) (k + 1) ls).2)
def comb (acc:List TRow) (r:List TRow × Nat × Nat):List TRow × Nat × Nat:=if r.2.2=0 then (acc ++ r.1,0,0) else ([],r.2)
section
variable {acc:List TRow} {i k:Nat} {l:ByteArray} {ls:List ByteArray} {r:List TRow × Nat × Nat}
theorem comb_bad (h:plainB l=false ∨ 24 < (wordsB l).length):comb acc (rowsOf i k (l :: ls))=([],i + 1,2):=by
 rw [rowsOf,if_pos h];rfl
theorem comb_none (h:plainB l=true) (h2:wordsB l=[]):comb acc (rowsOf i k (l :: ls))=comb acc (rowsOf (i + 1) k ls):=by
 rw [rowsOf,if_neg (by rw [h,h2];simp),if_pos h2]
theorem comb_full (h:plainB l=true) (h1:(wordsB l).length≤24) (h2:wordsB l ≠ []):comb acc (rowsOf i 2000 (l :: ls))=([],i + 1,11):=by
 rw [rowsOf,if_neg (by rw [h];simp;omega),if_neg h2,if_pos rfl];rfl
theorem comb_more (h:plainB l=true) (h1:(wordsB l).length≤24) (h2:wordsB l ≠ []) (h3:k ≠ 2000):comb acc (rowsOf i k (l :: ls))=comb (acc ++ [(i + 1,wordsB l)]) (rowsOf (i + 1) (k + 1) ls):=by
 rw [rowsOf,if_neg (by rw [h];simp;omega),if_neg h2,if_neg h3]
 unfold comb
 by_cases h4:(rowsOf (i + 1) (k + 1) ls).2.2=0
 ·rw [if_pos h4,if_pos rfl,if_pos h4];simp
 ·rw [if_neg h4,if_neg h4,if_neg h4]
theorem comb_nil:comb acc (rowsOf i k [])=(acc,0,0):=by rw [rowsOf];unfold comb;simp
theorem comb_zero (h:r.2.2=0→r.2.1=0) (h':r.2.2 ≠ 0→r.1=[]):comb [] r=r:=by
 unfold comb
 obtain ⟨a,b,c⟩:=r
 by_cases h1:c=0
 ·subst h1;simp at h ⊢;exact h.symm
 ·simp at h h' ⊢;rw [if_neg h1,h' h1]
theorem rowsOf_form:∀ (ls:List ByteArray) (i k:Nat),((rowsOf i k ls).2.2=0→(rowsOf i k ls).2.1=0)∧((rowsOf i k ls).2.2 ≠ 0→(rowsOf i k ls).1=[])
 | [],i,k=>by rw [rowsOf];simp
 | l :: ls,i,k=>by
   have ih1:=rowsOf_form ls (i + 1) k
   have ih2:=rowsOf_form ls (i + 1) (k + 1)
   rw [rowsOf]
   split
   ·simp
   ·split
    ·exact ih1
    ·split
     ·simp
     ·split
      ·simp
      ·rename_i h;refine ⟨fun h2=>absurd h2 h,fun _=>rfl⟩
theorem comb_start:comb [] (rowsOf i k ls)=rowsOf i k ls:=comb_zero (rowsOf_form ls i k).1 (rowsOf_form ls i k).2
end
def flatR:List TRow→List Value→List Value
 | r :: rs,v :: vs=>.int .i64 (r.1:Int) :: v :: flatR rs vs
 | _,_=>[]
section
variable {rs:List TRow} {vs:List Value} {r:TRow} {v:Value}
theorem flatR_snoc:∀ {rs:List TRow} {vs:List Value},vs.length=rs.length→flatR (rs ++ [r]) (vs ++ [v])=flatR rs vs ++ [.int .i64 (r.1:Int),v]
 | [],[],_=>rfl
 | r' :: rs,v' :: vs,h=>by
   have:=flatR_snoc (rs:=rs) (vs:=vs) (by simpa using h)
   simp only [List.cons_append,flatR,this]
theorem flatR_get:∀ {rs:List TRow} {vs:List Value},vs.length=rs.length → ∀ {j:Nat} {r:TRow} {v:Value},rs[j]? = some r→vs[j]? = some v→(flatR rs vs)[j * 2]? = some (.int .i64 (r.1:Int))∧(flatR rs vs)[j * 2 + 1]? = some v
 | [],[],_,j,r,v,h,_=>by simp at h
 | r' :: rs,v' :: vs,hl,0,r,v,h,h'=>by
   simp at h h'
   subst h;subst h'
   simp [flatR]
 | r' :: rs,v' :: vs,hl,j + 1,r,v,h,h'=>by
   have:=flatR_get (rs:=rs) (vs:=vs) (by simpa using hl) (j:=j) (by simpa using h) (by simpa using h')
   rw [show (j + 1) * 2=j * 2 + 1 + 1 by omega]
   simpa [flatR] using this
end
theorem own_ne {w:World} {base base':Nat} {e e':TypeId} {sz sz':Nat} {v v':Value} {n n':Nat} {xs xs':List Value} (h:w.ownsRow base e sz v n xs) (h':w.ownsRow base' e' sz' v' n' xs') (hne:e ≠ e'):v.ownBlock=none ∨ v.ownBlock ≠ v'.ownBlock:=by
 rcases h.2 with ⟨rfl,_⟩ | ⟨g,cap,cur,rfl,_,hg,_⟩
 ·exact .inl rfl
 ·rcases h'.2 with ⟨rfl,_⟩ | ⟨g',cap',cur',rfl,_,hg',_⟩
  ·right;simp [Value.ownBlock]
  ·right
   simp only [Value.ownBlock,ne_eq,Option.some.injEq]
   rintro rfl
   rw [hg] at hg'
   injection hg' with hg'
   injection hg' with _ ht
   exact hne ht
structure RB (base:Nat) (w:World) (v:Value) (rs:List TRow) (vs:List Value):Prop where
 len:vs.length=rs.length
 own:w.ownsRow base 72 2 v rs.length (flatR rs vs)
 inner:∀ (j:Nat) (x:Value) (r:TRow),vs[j]? = some x→rs[j]? = some r→(∃ A c,x = .slice A r.2.length c∧(A=none→c=0))∧w.ownsRow base 9 1 x r.2.length (r.2.map Value.string)
section
variable {base:Nat} {w w':World} {v v' x:Value} {rs:List TRow} {vs:List Value} {r:TRow}
theorem RB.nil:RB base w (.slice none 0 0) [] []:=⟨rfl,World.ownsRow_nil _ _ _ _,fun j x r h=>by simp at h⟩
theorem RB.kept (h:RB base w v rs vs) {row:Option Nat} (hg:w.grownBy w' row) (hv:v.ownBlock=none ∨ v.ownBlock ≠ row) (hx:∀ x ∈ vs,x.ownBlock=none ∨ x.ownBlock ≠ row):RB base w' v rs vs :=
 ⟨h.len,h.own.kept hg hv,fun j x r h1 h2=>⟨(h.inner j x r h1 h2).1,(h.inner j x r h1 h2).2.kept hg (hx x (List.mem_of_getElem? h1))⟩⟩
theorem grown_below {B:Nat} (hb:Below w.heap.size w w'):w.grownBy w' none:=⟨hb.os,hb.tape,hb.output,hb.size,fun k hk _=>hb.block k hk⟩
theorem RB.below (h:RB base w v rs vs) (hb:Below w.heap.size w w'):RB base w' v rs vs :=
 h.kept (grown_below (B:=0) hb) (by cases v.ownBlock <;> simp) (fun x _=>by cases x.ownBlock <;> simp)
theorem RB.alloc (h:RB base w v rs vs) (o:Obj):RB base (w.alloc o) v rs vs:=h.below ((Below.refl _ _).alloc (Nat.le_refl _) o)
theorem RB.more (h:RB base w v rs vs) (hx:(∃ A c,x = .slice A r.2.length c∧(A=none→c=0))∧w.ownsRow base 9 1 x r.2.length (r.2.map Value.string))
 (ho:w'.ownsRow base 72 2 v' (rs.length + 1) (flatR rs vs ++ [.int .i64 (r.1:Int),x])) (hg:w.grownBy w' v.ownBlock):RB base w' v' (rs ++ [r]) (vs ++ [x]):=by
 refine ⟨by rw [List.length_append,List.length_append,h.len];rfl,by rw [flatR_snoc h.len];simpa using ho,fun j y r' h1 h2=>?_⟩
 have hl:=h.len
 rcases Nat.lt_or_ge j vs.length with hj | hj
 ·rw [List.getElem?_append_left hj] at h1
  rw [List.getElem?_append_left (by omega)] at h2
  have h3:=h.inner j y r' h1 h2
  exact ⟨h3.1,h3.2.kept hg (own_ne h3.2 h.own (by decide))⟩
 ·rw [List.getElem?_append_right hj] at h1
  rw [List.getElem?_append_right (by omega)] at h2
  rw [show j - rs.length=j - vs.length by omega] at h2
  cases hk:j - vs.length with
  | zero =>
    rw [hk] at h1 h2
    simp at h1 h2
    subst h1;subst h2
    exact ⟨hx.1,hx.2.kept hg (own_ne hx.2 h.own (by decide))⟩
  | succ k=>rw [hk] at h1;simp at h1
end
def RW (w:World) (B:Nat) (A:Option Addr) (rs:List TRow):Prop :=
 0 < rs.length → ∃ (g:Nat) (vs:List Value),A=some ⟨g,0,none⟩∧g < B∧vs.length=rs.length ∧ ∀ j r v,rs[j]? = some r→vs[j]? = some v →
  w.cell? ⟨g,j * 2,none⟩=some (.int .i64 (r.1:Int))∧w.cell? ⟨g,j * 2 + 1,none⟩=some v ∧ ∃ A' c,v = .slice A' r.2.length c∧(A'=none→c=0)∧r.2.length≤c∧RS w B A' r.2
def Rs (W:World) (A:Option Addr) (rs:List TRow):Prop:=Hid (RW W W.heap.size A rs)
section
variable {W W' w w':World} {B B':Nat} {A:Option Addr} {rs:List TRow} {vs:List Value} {base c n:Nat}
theorem own_cap {e:TypeId} {sz:Nat} {xs:List Value} (h:w.ownsRow base e sz (.slice A n c) n xs):n≤c:=by
 rcases h.2 with ⟨h0,_⟩ | ⟨g,cap,cur,h0,_,_,h3,_⟩
 ·injection h0 with _ h1 h2;omega
 ·injection h0 with _ h1 h2;omega
theorem RB.reads (h:RB base W (.slice A rs.length c) rs vs):Rs W A rs:=fun hn=>by
 rcases h.own.2 with ⟨h0,h1⟩ | ⟨g,cap,cur,h0,h1,hg,_⟩
 ·omega
 ·injection h0 with h0 _ hcap
  subst h0
  refine ⟨g,vs,rfl,(Array.getElem?_eq_some_iff.1 hg).1,h.len,fun j r v h2 h3=>?_⟩
  have hj:j < rs.length:=(List.getElem?_eq_some_iff.1 h2).1
  obtain ⟨h4,h5⟩:=flatR_get h.len h2 h3
  obtain ⟨⟨A',c',e,hc'⟩,h7⟩:=h.inner j v r h3 h2
  refine ⟨(World.ownsRow.cellAt h.own (j * 2) (by omega)).trans h4,(World.ownsRow.cellAt h.own (j * 2 + 1) (by omega)).trans h5,A',c',e,hc',?_,?_⟩
  ·subst e;exact own_cap h7
  ·subst e;exact RS.of_own h7
end
end Go.Proofs.YtfflmmbhpchloaaGreatDoor.E
end
