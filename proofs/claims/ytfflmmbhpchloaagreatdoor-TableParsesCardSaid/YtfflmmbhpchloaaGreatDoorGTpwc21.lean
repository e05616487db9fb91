/- Each theorem here says its own conditions. -/
import Derived.Lib.Bytealg
import Derived.Lib.IndexLaws
import Derived.Test.YtfflmmbhpchloaaGreatDoorGTpwc20
import Derived.Test.YtfflmmbhpchloaaGreatDoorGTpwc18
import Derived.Sort.LotA
import Derived.Sort.WalkA
import Derived.Shelf.GgSortFunc.SmallK
set_option maxRecDepth 100000
set_option maxHeartbeats 16000000
section
open Go.RowKit
namespace Go.Proofs.YtfflmmbhpchloaaGreatDoor
theorem toList_loop (bs:ByteArray) (k:Nat):∀ i r,bs.size - i=k→ByteArray.toList.loop bs i r=r.reverse ++ bs.data.toList.drop i:=by
 induction k with
 | zero =>
   intro i r h
   unfold ByteArray.toList.loop
   rw [if_neg (by omega),List.drop_of_length_le (by show bs.data.size≤i;have:bs.data.size=bs.size:=rfl;omega),List.append_nil]
 | succ k ih =>
   intro i r h
   have hi:i < bs.data.toList.length:=by show i < bs.data.size;have:bs.data.size=bs.size:=rfl;omega
   unfold ByteArray.toList.loop
   rw [if_pos (by omega),ih (i + 1) _ (by omega),List.drop_eq_getElem_cons hi,List.reverse_cons,List.append_assoc]
   congr 2
   show bs.get! i :: _=_
   have:bs.get! i=bs.data.toList[i]:=by
    show bs.data[i]! = _
    rw [getElem!_pos bs.data i hi];rfl
   rw [this];rfl
theorem toList_data (bs:ByteArray):bs.toList=bs.data.toList:=by
 unfold ByteArray.toList
 rw [toList_loop bs _ 0 [] rfl];rfl
theorem extract_list (s:ByteArray) (i j:Nat):(s.extract i j).data.toList=(s.data.toList.take j).drop i:=by
 simp [ByteArray.data_extract,List.extract_eq_drop_take',Array.toList_extract]
theorem minus_head (s:ByteArray):((s.extract 0 1).toList == [45])=(s.data.toList.head? == some 45):=by
 rw [toList_data,extract_list]
 cases s.data.toList with
 | nil=>rfl
 | cons x xs=>simp
theorem HasPrefix_any (s:ByteArray) (w:World) (hs:s.size≤100000) :
 Calls Tryz.prog 138 #[.string s,.string ⟨#[45]⟩] w fun e w'=>e = .returned (.bool (s.data.toList.head? == some 45))∧w=w':=by
 by_cases h0:s.size=0
 ·have HE:Hid ((s.data.toList.head? == some 45)=false):=by
   have:s.data.toList=[]:=List.eq_nil_of_length_eq_zero (by rw [← size_list];exact h0)
   unfold Hid;rw [this];rfl
  go_enter Tryz.func138,Tryz.ntmps138
  go_wp2
  go_ret
  exact ⟨by rw [HE.out];rfl,rfl⟩
 ·have h1:1≤s.size:=by omega
  have HE:=hide (minus_head s)
  go_enter Tryz.func138,Tryz.ntmps138
  go_wp2
  go_ret
  exact ⟨by rw [← HE.out];rfl,rfl⟩
def CutR (w:World) (s:ByteArray) (e:Ending) (w':World):Prop:=∃ t:ByteArray,∃ b:Bool,e = .returned (.tuple #[.string t,.bool b])∧Hid (s.data.toList=(if b then [45] else []) ++ t.data.toList∧(b=false→s.data.toList.head? ≠ some 45))∧w=w'
theorem cutp_any (s:ByteArray) (w:World) (hs:s.size≤100000):Calls Tryz.prog 244 #[.string s,.string ⟨#[45]⟩] w (CutR w s):=by
 have CH:=hide (fun W=>HasPrefix_any s W hs)
 by_cases hh:s.data.toList.head? = some 45
 ·have hb:(s.data.toList.head? == some 45)=true:=by rw [hh];rfl
  rw [hb] at CH
  obtain ⟨m,hm⟩:∃ m,s.data.toList=45 :: m:=by
   cases hl:s.data.toList with
   | nil=>rw [hl] at hh;cases hh
   | cons x xs=>rw [hl] at hh;injection hh with hh;exact ⟨xs,by rw [hh]⟩
  have h1:1≤s.size:=by rw [size_list,hm];simp
  have HM:=hide hm
  clear hh hb hm
  go_enter Tryz.func244,Tryz.ntmps244
  go_wp2_with (first | (go_at_call 138;(with_reducible refine (CH.out _).mono ?_);rintro e w1 ⟨rfl,rfl⟩) | fail)
  refine bodyPost_ret (v:=.tuple #[.string (s.extract 1 s.size),.bool true]) (by simp [results,Tryz.results244,go_sem]) rfl ⟨_,true,rfl,⟨?_,fun h=>by cases h⟩,rfl⟩
  rw [extract_list,List.take_of_length_le (by rw [size_list];exact Nat.le_refl _),HM.out]
  rfl
 ·have hb:(s.data.toList.head? == some 45)=false:=by rw [beq_eq_false_iff_ne];exact hh
  rw [hb] at CH
  have HH:=hide hh
  clear hh hb
  go_enter Tryz.func244,Tryz.ntmps244
  go_wp2_with (first | (go_at_call 138;(with_reducible refine (CH.out _).mono ?_);rintro e w1 ⟨rfl,rfl⟩) | fail)
  refine bodyPost_ret (v:=.tuple #[.string s,.bool false]) (by simp [results,Tryz.results244,go_sem]) rfl ⟨s,false,rfl,⟨rfl,fun _=>HH.out⟩,rfl⟩
theorem cut_any (s:ByteArray) (w:World) (hs:s.size≤100000):Calls Tryz.prog 232 #[.string s,.string ⟨#[45]⟩] w (CutR w s):=by
 have CH:=hide (fun W=>cutp_any s W hs)
 go_enter Tryz.func232,Tryz.ntmps232
 go_wp2_with (first | (go_at_call 244;(with_reducible refine (CH.out _).mono ?_);rintro e w1 ⟨t,b,rfl,ht,rfl⟩) | fail)
 exact bodyPost_ret (v:=.tuple #[.string t,.bool b]) (by simp [results,Tryz.results232,go_sem]) rfl ⟨t,b,rfl,ht,rfl⟩
def CutS (w:World) (l:List UInt8) (b:Bool) (e:Ending) (w':World):Prop:=∃ t:ByteArray,e = .returned (.tuple #[.string t,.bool b])∧Hid (t.data.toList=l)∧w=w'
theorem cut_h (s:ByteArray) (w:World) (hs:s.size≤100000) {b:Bool} {l:List UInt8} (h:s.data.toList=(if b then [45] else []) ++ l) (hb:b=false→l.head? ≠ some 45):Calls Tryz.prog 232 #[.string s,.string ⟨#[45]⟩] w (CutS w l b):=by
 refine (cut_any s w hs).mono ?_
 rintro e w' ⟨t,b',rfl,ht,rfl⟩
 obtain ⟨h1,h2⟩:=ht.out
 rw [h] at h1 h2
 cases b <;> cases b'
 ·exact ⟨t,rfl,by simpa [Hid] using h1.symm,rfl⟩
 ·exfalso;refine hb rfl ?_;rw [show l=45 :: t.data.toList by simpa using h1];rfl
 ·exfalso;exact h2 rfl rfl
 ·exact ⟨t,rfl,by simpa [Hid] using h1.symm,rfl⟩
def ZPR (W:World) (z:Int) (e:Ending) (w':World):Prop :=
 ∃ A c,e = .returned (.tuple #[.agg #[.bool (decide (z < 0)),.slice A (dl z.natAbs) c],.bool true])∧ZA w' (decide (z < 0)) A (dl z.natAbs) c z∧Hid (Below W.heap.size W w')
def ZPN (W:World) (e:Ending) (w':World):Prop:=e = .returned (.tuple #[.agg #[.bool false,.slice none 0 0],.bool false])∧Hid (Below W.heap.size W w')
def PsR (W:World) (v:Nat) (e:Ending) (w':World):Prop:=∃ A c,e = .returned (.tuple #[.agg #[.slice A (dl v) c],.bool true])∧Nm w' A (dl v) c v∧Hid (Below W.heap.size W w')
def PsN (W:World) (e:Ending) (w':World):Prop:=e = .returned (.tuple #[.agg #[.slice none 0 0],.bool false])∧Hid (Below W.heap.size W w')
theorem numL_dl {l:List UInt8} (hd:digB l=true) (h:l.length≤99999):dl (numL l)≤100000:=by
 have h1:=numL_lt l (by unfold digB at hd;rw [Bool.and_eq_true] at hd;exact hd.2)
 refine Nat.le_trans (dl_le (k:=l.length + 1) (Nat.lt_of_lt_of_le h1 ?_)) (by omega)
 rw [Nat.pow_succ]
 exact Nat.le_trans (Nat.pow_le_pow_left (show 10≤W32 by decide) _) (Nat.le_mul_of_pos_right _ (by decide))
theorem parse_h (s:ByteArray) (w:World) (hs:s.size≤99999) (h:digB s.data.toList=true) {v:Nat} (hv:numL s.data.toList=v):Calls Tryz.prog 142 #[.string s] w (PsR w v):=by
 subst hv
 refine (Parse_any s w (by omega)).mono fun e w' h1=>?_
 unfold ParsePost at h1
 rw [if_pos h] at h1
 obtain ⟨A,c,he,hc,hb⟩:=h1
 exact ⟨A,c,he,nm_can hc (numL_dl h (by rw [← size_list];omega)),hb⟩
theorem parse_n (s:ByteArray) (w:World) (hs:s.size≤99999) (h:¬ digB s.data.toList=true):Calls Tryz.prog 142 #[.string s] w (PsN w):=by
 refine (Parse_any s w (by omega)).mono fun e w' h1=>?_
 unfold ParsePost at h1
 rw [if_neg h] at h1
 exact h1
theorem alc1 {w:World} {o:Obj} {p i:Nat} {v:Value} (h:w.cell? ⟨p,i,none⟩=some v):(w.alloc o).cell? ⟨p,i,none⟩=some v:=(World.cell?_alloc_some _ _ _ (by rw [h];rfl)).trans h
theorem set2b {w:World} {p:Nat} {s:Bool} {A:Option Addr} {n c:Nat} {x y:Value} (h:Zcell w p s A n c) :
 ((w.setCell ⟨p,0,none⟩ x).setCell ⟨p,1,none⟩ y).cell? ⟨p,0,none⟩=some x∧((w.setCell ⟨p,0,none⟩ x).setCell ⟨p,1,none⟩ y).cell? ⟨p,1,none⟩=some y :=
 ⟨(World.cell?_setCell_other _ _ _ _ (by intro e;cases e)).trans (World.cell?_setCell_same _ _ _ h.c0),World.cell?_setCell_same _ _ _ ((World.cell?_setCell_other _ _ _ _ (by intro e;cases e)).trans h.c1)⟩
section
variable {W:World} {s:ByteArray} {b:Bool} {l:List UInt8}
theorem zparse_h {v:Int} (hs:s.size≤99999) (h:s.data.toList=(if b then [45] else []) ++ l) (hb:b=false→l.head? ≠ some 45) (hd:digB l=true) (hv:zi b (numL l)=v):Calls Tryz.prog 214 #[.string s] W (ZPR W v):=by
 have hll:l.length≤99999:=by
  have:=congrArg List.length h
  rw [← size_list,List.length_append] at this
  omega
 have CC:=hide (fun (W':World)=>cut_h s W' (by omega) h hb)
 have CP:Hid (∀ (W':World) (t:ByteArray),Hid (t.data.toList=l)→Calls Tryz.prog 142 #[.string t] W' (PsR W' v.natAbs)):=fun W' t ht=>parse_h t W' (by rw [size_list,ht.out];exact hll) (by rw [ht.out];exact hd) (by rw [ht.out,← hv,zi_abs])
 have CS:Hid (∀ W' B n d,Nm W' B n d v.natAbs→Calls Tryz.prog 132 #[.bool b,.agg #[.slice B n d]] W' (SgR W' (decide (v < 0)) B n d)):=fun W' B n d hn=>signed_z hn (by rw [← hv,zi_abs])
 clear h hb hd hv hs hll
 go_enter Tryz.func214,Tryz.ntmps214
 go_wp2_with (first | (go_at_call 232;(with_reducible refine (CC.out _).mono ?_);rintro e w1 ⟨t,rfl,ht,rfl⟩) | (go_at_call 142;(with_reducible refine (CP.out _ t ht).mono ?_);rintro e w2 ⟨B,d,rfl,hn,hbk⟩;have HR:=hide ((zc_new _ _ _ _ _ _).up hbk);have HW:Hid (Below W.heap.size W w2):=(bz1 hbk).2.2.2;have l0:=HR.out.lt;have r0:=HR.out.c0;have r1:=HR.out.c1;have f0:=HR.out.f0;have f1:=HR.out.f1) | (go_at_call 132;(with_reducible refine (CS.out _ _ _ _ (hn.al _)).mono ?_);rintro e w3 ⟨rfl,hbk2⟩;replace HR:=hide (HR.out.upA hbk2);replace HW:=bel_al HW hbk2;replace hn:=nm_upA hn hbk2;clear r0 r1 f0 f1 l0;have l0:=HR.out.lt;have r0:=HR.out.c0;have r1:=HR.out.c1;have f0:=HR.out.f0;have f1:=HR.out.f1) | fail)
 refine bodyPost_ret (v:=.tuple #[.agg #[.bool (decide (v < 0)),.slice B (dl v.natAbs) d],.bool true]) (by simp [results,Tryz.results214,go_sem,r0,r1]) rfl ?_
 exact ⟨B,d,rfl,zr_of (nm_z2 hn HR.out.c0 HR.out.c1),(HW.out.setCell (by simp) _).setCell (by simp) _⟩
theorem zparse_n (hs:s.size≤99999) (h:s.data.toList=(if b then [45] else []) ++ l) (hb:b=false→l.head? ≠ some 45) (hd:¬ digB l=true):Calls Tryz.prog 214 #[.string s] W (ZPN W):=by
 have hll:l.length≤99999:=by
  have:=congrArg List.length h
  rw [← size_list,List.length_append] at this
  omega
 have CC:=hide (fun (W':World)=>cut_h s W' (by omega) h hb)
 have CP:Hid (∀ (W':World) (t:ByteArray),Hid (t.data.toList=l)→Calls Tryz.prog 142 #[.string t] W' (PsN W')):=fun W' t ht=>parse_n t W' (by rw [size_list,ht.out];exact hll) (by rw [ht.out];exact hd)
 clear h hb hd hs hll
 go_enter Tryz.func214,Tryz.ntmps214
 go_wp2_with (first | (go_at_call 232;(with_reducible refine (CC.out _).mono ?_);rintro e w1 ⟨t,rfl,ht,rfl⟩) | (go_at_call 142;(with_reducible refine (CP.out _ t ht).mono ?_);rintro e w2 ⟨rfl,hbk⟩;have HR:=hide ((zc_new _ _ _ _ _ _).up hbk);have HW:Hid (Below W.heap.size W w2):=(bz1 hbk).2.2.2;have l0:=HR.out.lt;have r0:=HR.out.c0;have r1:=HR.out.c1;have f0:=HR.out.f0;have f1:=HR.out.f1) | fail)
 have u0:=fun o=>alc1 (o:=o) (set2b (x:=.bool false) (y:=.slice none 0 0) HR.out).1
 have u1:=fun o=>alc1 (o:=o) (set2b (x:=.bool false) (y:=.slice none 0 0) HR.out).2
 refine bodyPost_ret (v:=.tuple #[.agg #[.bool false,.slice none 0 0],.bool false]) (by simp [results,Tryz.results214,go_sem,u0,u1]) rfl ⟨rfl,?_⟩
 exact ((HW.out.setCell (by simp) _).setCell (by simp) _).alloc (by have:=HW.out.size;simpa [World.setCell] using this) _
end
theorem ixbyte_any (s:ByteArray) (w:World):Calls Tryz.prog 216 #[.string s,.int .u8 47] w fun e w'=>e = .returned (.int .i64 (Lib.indexByte s.data.toList 47))∧w=w':=by
 go_enter Tryz.func216,Tryz.ntmps216
 go_wp2_with fail
 rw [run_callFunc_extern Tryz.func233 (by kernel_rfl) (by kernel_rfl) (by kernel_rfl) (e:=Extern.BytealgIndexByte.indexByte) (by kernel_rfl),Lib.run_indexByteString]
 simp only [Result.andThen]
 rw [Oper.upon_value]
 go_wp2
 go_ret
 exact ⟨rfl,rfl⟩
theorem index_any (s:ByteArray) (w:World) {v:Int} (hv:Lib.indexByte s.data.toList 47=v):Calls Tryz.prog 190 #[.string s,.string ⟨#[47]⟩] w fun e w'=>e = .returned (.int .i64 v)∧w=w':=by
 subst hv
 have CI:=hide (fun W=>ixbyte_any s W)
 cases hb:([47] == s.toList)
 ·go_enter Tryz.func190,Tryz.ntmps190
  go_wp2_with (first | (go_at_call 216;(refine (CI.out _).mono ?_);rintro e w1 ⟨rfl,rfl⟩) | fail)
  go_ret
  exact ⟨rfl,rfl⟩
 ·have HV:Hid (Lib.indexByte s.data.toList 47=0):=by
   have h1:[47]=s.toList:=beq_iff_eq.1 hb
   unfold Hid
   rw [← toList_data,← h1];rfl
  go_enter Tryz.func190,Tryz.ntmps190
  go_wp2_with (first | (go_at_call 216;(refine (CI.out _).mono ?_);rintro e w1 ⟨rfl,rfl⟩) | fail)
  go_ret
  exact ⟨by rw [HV.out];rfl,rfl⟩
def SlashR (w:World) (s:ByteArray) (e:Ending) (w':World):Prop :=
 ∃ (t u:ByteArray) (b:Bool),e = .returned (.tuple #[.string t,.string u,.bool b])∧Hid ((b=true→s.data.toList=t.data.toList ++ 47 :: u.data.toList)∧(b=false→t=s) ∧ ¬ (47:UInt8) ∈ t.data.toList)∧Hid (Below w.heap.size w w')
theorem cutl_any (s:ByteArray) (w:World) (hs:s.size≤100000):Calls Tryz.prog 231 #[.string s,.string ⟨#[47]⟩] w (SlashR w s):=by
 obtain ⟨v,hv⟩:∃ v,Lib.indexByte s.data.toList 47=v:=⟨_,rfl⟩
 have CI:=hide (fun W=>index_any s W hv)
 have hge:=Lib.indexByte_ge s.data.toList 47
 rw [hv] at hge
 by_cases hm:v = -1
 ·subst hm
  have HN:=hide (Lib.indexByte_none hv)
  clear hv hge
  go_enter Tryz.func231,Tryz.ntmps231
  go_wp2_with (first | (go_at_call 190;(with_reducible refine (CI.out _).mono ?_);rintro e w1 ⟨rfl,rfl⟩) | fail)
  refine bodyPost_ret (v:=.tuple #[.string s,.string ⟨#[]⟩,.bool false]) (by simp [results,Tryz.results231,go_sem]) rfl ?_
  refine ⟨s,_,false,rfl,⟨(fun h=>by cases h),(fun _=>rfl),fun h=>?_⟩,Below.refl _ _⟩
  obtain ⟨k,hk⟩:=List.mem_iff_getElem?.1 h
  exact HN.out k hk
 ·obtain ⟨i,rfl⟩:∃ i:Nat,v=(i:Int):=⟨v.toNat,by omega⟩
  obtain ⟨h1,h2⟩:=Lib.indexByte_some hv
  have hi:i < s.data.toList.length:=by
   rcases Nat.lt_or_ge i s.data.toList.length with h | h
   ·exact h
   ·rw [List.getElem?_eq_none h] at h1;cases h1
  have hsz:=size_list s
  have H1:=hide h1
  have H2:=hide h2
  have hi2:i < s.size:=by omega
  have hi3:i + 1≤s.size:=by omega
  have q0:(0:Int)≤(i:Int):=by omega
  have q1:(i:Int)≤(s.size:Int):=by omega
  have q2:(0:Int)≤(i:Int) + 1:=by omega
  have q3:(i:Int) + 1≤(s.size:Int):=by omega
  have HE:Hid (IntKind.i64.wrap ((i:Int) + 1)=(i:Int) + 1):=IntWalk.i64_in _ (by omega)
  have HT:Hid (((i:Int) + 1).toNat=i + 1):=by unfold Hid;omega
  have HSZ:=hide hsz
  clear hv hge hm h1 h2 hi hsz
  go_enter Tryz.func231,Tryz.ntmps231
  go_wp2_with (first | (go_at_call 190;(with_reducible refine (CI.out _).mono ?_);rintro e w1 ⟨rfl,rfl⟩) | fail)
  have e1:=HE.out
  have e2:=HT.out
  go_quiet (fail)
  clear e1 e2
  go_wp2
  refine bodyPost_ret (v:=.tuple #[.string (s.extract 0 i),.string (s.extract (i + 1) s.size),.bool true]) (by simp [results,Tryz.results231,go_sem]) rfl ?_
  refine ⟨_,_,true,rfl,⟨fun _=>?_,(fun h=>by cases h),fun h=>?_⟩,below_drewN (Below.refl _ _) _⟩
  ·have h1:=H1.out
   have hl:i < s.data.toList.length:=by rw [← HSZ.out];exact hi2
   rw [List.getElem?_eq_getElem hl] at h1
   injection h1 with h1
   rw [extract_list,extract_list,List.drop_zero,List.take_of_length_le (Nat.le_of_eq HSZ.out.symm),← h1,← List.drop_eq_getElem_cons hl,List.take_append_drop]
  ·rw [extract_list,List.drop_zero] at h
   obtain ⟨k,hk⟩:=List.mem_iff_getElem?.1 h
   rw [List.getElem?_take] at hk
   split at hk
   ·exact H2.out k (by assumption) hk
   ·cases hk
theorem slash_any (s:ByteArray) (w:World) (hs:s.size≤100000):Calls Tryz.prog 213 #[.string s,.string ⟨#[47]⟩] w (SlashR w s):=by
 have CH:=hide (fun W=>cutl_any s W hs)
 go_enter Tryz.func213,Tryz.ntmps213
 go_wp2_with (first | (go_at_call 231;(with_reducible refine (CH.out _).mono ?_);rintro e w1 ⟨t,u,b,rfl,ht,hbk⟩) | fail)
 exact bodyPost_ret (v:=.tuple #[.string t,.string u,.bool b]) (by simp [results,Tryz.results213,go_sem]) rfl ⟨t,u,b,rfl,ht,hbk⟩
def decQ (r:Rat):List UInt8:=if r.den=1 then decZ r.num else decZ r.num ++ (47 :: decL r.den)
def NPR (W:World) (v:Nat) (e:Ending) (w':World):Prop:=∃ A c,e = .returned (.tuple #[.agg #[.slice A (dl v) c],.bool true])∧Nm w' A (dl v) c v∧Hid (Below W.heap.size W w')
theorem npar_h {W:World} {s:ByteArray} {v:Nat} (hs:s.size≤100000) (hd:digB s.data.toList=true) (hv:numL s.data.toList=v) (hl:dl v≤100000):Calls Tryz.prog 142 #[.string s] W (NPR W v):=by
 subst hv
 refine (Parse_any s W hs).mono fun e w' h1=>?_
 unfold ParsePost at h1
 rw [if_pos hd] at h1
 obtain ⟨A2,c2,he,hc,hb⟩:=h1
 exact ⟨A2,c2,he,nm_can hc hl,hb⟩
def CutQ (w:World) (t:ByteArray) (u:ByteArray) (b:Bool) (e:Ending) (w':World):Prop:=e = .returned (.tuple #[.string t,.string u,.bool b])∧Hid (Below w.heap.size w w')
theorem split_once {a a' b b':List UInt8} (h:a ++ 47 :: b=a' ++ 47 :: b') (ha:¬ (47:UInt8) ∈ a) (ha':¬ (47:UInt8) ∈ a'):a=a'∧b=b':=by
 induction a generalizing a' with
 | nil =>
   cases a' with
   | nil=>simp at h;exact ⟨rfl,h⟩
   | cons x xs=>simp at h;exact absurd (by rw [← h.1];simp) ha'
 | cons y ys ih =>
   cases a' with
   | nil=>simp at h;exact absurd (by rw [h.1];simp) ha
   | cons x xs =>
     simp at h
     obtain ⟨h1,h2⟩:=ih h.2 (fun h=>ha (List.mem_cons_of_mem _ h)) (fun h=>ha' (List.mem_cons_of_mem _ h))
     exact ⟨by rw [h.1,h1],h2⟩
theorem slash_hit {s t u:ByteArray} (w:World) (hs:s.size≤100000) (h:s.data.toList=t.data.toList ++ 47 :: u.data.toList) (ht:¬ (47:UInt8) ∈ t.data.toList):Calls Tryz.prog 213 #[.string s,.string ⟨#[47]⟩] w (CutQ w t u true):=by
 refine (slash_any s w hs).mono ?_
 rintro e w' ⟨t',u',b,rfl,hr,hb⟩
 obtain ⟨h1,h2,h3⟩:=hr.out
 cases b
 ·have h4:=h2 rfl
  subst h4
  exact absurd (by rw [h];simp) h3
 ·have h4:=h1 rfl
  rw [h] at h4
  obtain ⟨e1,e2⟩:=split_once h4 ht h3
  obtain rfl:t=t':=ByteArray.ext (Array.ext' e1)
  obtain rfl:u=u':=ByteArray.ext (Array.ext' e2)
  exact ⟨rfl,hb⟩
def CutM (w:World) (s:ByteArray) (e:Ending) (w':World):Prop:=∃ u,e = .returned (.tuple #[.string s,.string u,.bool false])∧Hid (Below w.heap.size w w')
theorem slash_miss {s:ByteArray} (w:World) (hs:s.size≤100000) (h:¬ (47:UInt8) ∈ s.data.toList):Calls Tryz.prog 213 #[.string s,.string ⟨#[47]⟩] w (CutM w s):=by
 refine (slash_any s w hs).mono ?_
 rintro e w' ⟨t',u',b,rfl,hr,hb⟩
 obtain ⟨h1,h2,h3⟩:=hr.out
 cases b
 ·have h4:=h2 rfl
  subst h4
  exact ⟨_,rfl,hb⟩
 ·exact absurd (by rw [h1 rfl];simp) h
def QRs (W:World) (sg:Bool) (r:Rat) (e:Ending) (w':World):Prop :=
 ∃ A c A' c',e = .returned (.agg #[.bool sg,.slice A (dl r.num.natAbs) c,.slice A' (dl r.den) c'])∧ZA w' sg A (dl r.num.natAbs) c r.num∧Nm w' A' (dl r.den) c' r.den∧Hid (Below W.heap.size W w')
def OfYs (W:World) (sg:Bool) (r:Rat) (e:Ending) (w':World):Prop:=∃ A c A' c',e = .returned (.tuple #[.agg #[.bool sg,.slice A (dl r.num.natAbs) c,.slice A' (dl r.den) c'],.bool true])∧ZA w' sg A (dl r.num.natAbs) c r.num∧Nm w' A' (dl r.den) c' r.den∧Hid (Below W.heap.size W w')
def ZPRs (W:World) (sg:Bool) (z:Int) (e:Ending) (w':World):Prop:=∃ A c,e = .returned (.tuple #[.agg #[.bool sg,.slice A (dl z.natAbs) c],.bool true])∧ZA w' sg A (dl z.natAbs) c z∧Hid (Below W.heap.size W w')
section
variable {W:World} {b b':Bool} {A A':Option Addr} {n n' c c' m m':Nat} {z z':Int} {r:Rat} {K:Nat}
theorem dec_bd {m K:Nat} (h:m < W32 ^ K):(decL m).length≤10 * K + 1:=by
 have h3:W32 ^ K≤(10 ^ 10) ^ K:=Nat.pow_le_pow_left (by decide) _
 rw [← Nat.pow_mul] at h3
 refine dt_le (Nat.lt_of_lt_of_le (Nat.lt_of_lt_of_le h h3) (Nat.pow_le_pow_right (by decide) (by omega))) (by omega)
theorem decZ_bd {z:Int} {K:Nat} (h:z.natAbs < W32 ^ K):(decZ z).length≤10 * K + 2:=by
 have:=dec_bd h
 unfold decZ
 by_cases hn:z < 0
 ·rw [if_pos hn,List.length_cons];omega
 ·rw [if_neg hn];omega
theorem tt_bd {z:Int} {d:Nat} {r:Rat} {K:Nat} (h:TT z d r K):r.num.natAbs < W32 ^ K∧r.den < W32 ^ K:=by
 obtain ⟨h0,h1,h2,h3⟩:=h
 obtain ⟨g0,e1,e2,_⟩:=low_terms (z:=z) h0 (rfl:Nat.gcd z.natAbs d=Nat.gcd z.natAbs d)
 rw [h1] at e1 e2
 exact ⟨by rw [e1];exact Nat.lt_of_le_of_lt (Nat.div_le_self _ _) h2,by rw [e2];exact Nat.lt_of_le_of_lt (Nat.div_le_self _ _) h3⟩
theorem qa_bd (h:QA W b A n c A' n' c' r K) (hK:0 < K):r.num.natAbs < W32 ^ K∧r.den < W32 ^ K:=by
 obtain ⟨z,d,_,_,h1,h2,h3⟩:=h
 rcases Nat.eq_zero_or_pos d with h0 | h0
 ·subst h0
  rw [Rat.mkRat_zero] at h1
  subst h1
  exact ⟨Nat.pow_pos (by decide),Nat.one_lt_pow (by omega) (by decide)⟩
 ·exact tt_bd ⟨h0,h1,h2,h3⟩
end
def Bd (r:Rat) (K:Nat):Prop:=r.num.natAbs < W32 ^ K∧r.den < W32 ^ K
theorem Bd.more {r:Rat} {K L:Nat} (h:Bd r K) (hl:K≤L):Bd r L:=⟨Nat.lt_of_lt_of_le h.1 (Nat.pow_le_pow_right (by decide) hl),Nat.lt_of_lt_of_le h.2 (Nat.pow_le_pow_right (by decide) hl)⟩
theorem bd_int {z:Int} {K:Nat} (h:z.natAbs < W32 ^ K) (hK:0 < K):Bd (z:Rat) K:=⟨h,Nat.one_lt_pow (by omega) (by decide)⟩
theorem QA.more {W:World} {b:Bool} {A A':Option Addr} {n c n' c' K L:Nat} {r:Rat} (h:QA W b A n c A' n' c' r K) (hl:K≤L):QA W b A n c A' n' c' r L:=by
 obtain ⟨z,d,h1,h2,h3,h4,h5⟩:=h
 exact ⟨z,d,h1,h2,h3,Nat.lt_of_lt_of_le h4 (Nat.pow_le_pow_right (by decide) hl),Nat.lt_of_lt_of_le h5 (Nat.pow_le_pow_right (by decide) hl)⟩
section
variable {W:World} {p q:Nat} {v0 v1 v2 x y z:Value} {vs:List Value}
theorem At.put3 (h:At W p [v0,v1,v2]) (x y z:Value):At (((W.setCell ⟨p,0,none⟩ x).setCell ⟨p,1,none⟩ y).setCell ⟨p,2,none⟩ z) p [x,y,z] :=
 ((h.put (i:=0) (by simp) x).put (i:=1) (by simp) y).put (i:=2) (by simp) z
theorem At.far3 (h:At W p vs) (hq:q ≠ p) (x y z:Value):At (((W.setCell ⟨q,0,none⟩ x).setCell ⟨q,1,none⟩ y).setCell ⟨q,2,none⟩ z) p vs :=
 ((h.far hq x).far hq y).far hq z
theorem ZA.put3 {s:Bool} {A:Option Addr} {n c:Nat} {u:Int} {b0:Bool} {B0 B1:Option Addr} {k0 d0 k1 d1:Nat} (h:ZA W s A n c u) (hp:At W p [.bool b0,.slice B0 k0 d0,.slice B1 k1 d1]) {b:Bool} {B B':Option Addr} {k d k' d':Nat} :
 ZA (((W.setCell ⟨p,0,none⟩ (.bool b)).setCell ⟨p,1,none⟩ (.slice B k d)).setCell ⟨p,2,none⟩ (.slice B' k' d')) s A n c u:=⟨h.1.put3 hp now3,h.2⟩
end
end Go.Proofs.YtfflmmbhpchloaaGreatDoor
end
section
open Go.RowKit
open Go.Proofs.YtfflmmbhpchloaaGreatDoor.V
namespace Go.Proofs.YtfflmmbhpchloaaGreatDoor
structure Ent where
 id:ByteArray
 base:Int
 fac:Rat
 off:Rat
 has:Bool
 vec:V8
 full:Rat
structure Tb where
 ents:List (ByteArray × Ent)
 vals:List (ByteArray × Rat)
 als:List (ByteArray × ByteArray)
 qv:List V8
 qn:List ByteArray
 bases:Nat
def Tb.nil:Tb:=⟨[],[],[],[],[],0⟩
def Tb.names (T:Tb):List ByteArray:=T.ents.map (·.1)
def Tb.prefs (T:Tb):List ByteArray:=T.vals.map (·.1)
def zD (l:List UInt8):Option Int:=if l.head? = some 45 then (if digB l.tail=true then some (zi true (numL l.tail)) else none) else if digB l=true then some (zi false (numL l)) else none
def qD (s:ByteArray):Option Rat :=
 let i:=s.data.toList.findIdx (fun c=>c == 47)
 if i < s.size then (zD (s.data.toList.take i)).bind fun p=>if digB (s.data.toList.drop (i + 1))=true then (if numL (s.data.toList.drop (i + 1))=0 then none else some (mkRat p (numL (s.data.toList.drop (i + 1))))) else none
 else (zD s.data.toList).map fun p=>mkRat p 1
def fracD (s:ByteArray):Option Rat:=if s.size≤100 then qD s else none
def rootD (s:ByteArray):Option Int:=if s=⟨#[50]⟩ then some 2 else if s=⟨#[49,48]⟩ then some 10 else none
def expD (s:ByteArray):Option Int:=((List.range 61).find? fun k:Nat=>decide (Lib.itoa ((k:Int) - 30)=s.data.toList)).map fun k:Nat=>(k:Int) - 30
def powD (r:Rat) (i:Int):Rat:=if 0≤i then r ^ i.toNat else r⁻¹ ^ (-i).toNat
def nameB (s:ByteArray):Bool:=goodL [s]
def quanB (s:ByteArray):Bool:=decide (s.size≤256) && goodAll (pcs s)
def Tb.fresh (T:Tb) (s:ByteArray):Int:=if nameB s=false then 2 else if (lookL T.ents s).isSome=true ∨ (lookL T.als s).isSome=true then 10 else 0
def Tb.part (T:Tb) (id:ByteArray):Except Int PL:=match unitD T.names T.prefs id with
 | .error v=>.error v
 | .ok [p]=>.ok p
 | .ok _=>.error 2
def sgA (p:List AL × List AL):List (AL × Int):=p.1.map (fun a=>(a,1)) ++ p.2.map (fun a=>(a,-1))
def Tb.vecGo (T:Tb):List (AL × Int)→V8→Option V8
 | [],v=>some v
 | x :: r,v=>match lookL T.ents x.1.2.1 with
   | none=>none
   | some m=>if V8.mulB m.vec x.1.2.2=true then (if V8.addB v (V8.mulR (V8.mulR m.vec x.1.2.2) x.2)=true then T.vecGo r (V8.addR v (V8.mulR (V8.mulR m.vec x.1.2.2) x.2)) else none) else none
def Tb.vec (T:Tb) (p:List AL × List AL):Option V8:=T.vecGo (sgA p) V8.z
def Tb.hasOff (T:Tb) (s:ByteArray):Bool:=match lookL T.ents s with
 | none=>false
 | some m=>m.has
def Tb.offs (T:Tb) (p:List AL × List AL):Bool:=(sgA p).any fun x=>T.hasOff x.1.2.1
def Tb.isBase (T:Tb) (s:ByteArray):Bool:=match lookL T.ents s with
 | none=>false
 | some m=>!decide (m.base = -1)
def Tb.one (T:Tb) (a:AL):Rat:=match lookL T.ents a.2.1 with
 | none=>0
 | some m=>match lookL T.vals a.1 with
   | none=>m.full
   | some v=>v * m.full
def Tb.turned (T:Tb) (x:AL × Int):Rat:=powD (T.one x.1) x.2
def bitD (bit:Nat) (i:Int):Bool:=(i.toNat / bit) % 2 == 1
def Tb.stepF (T:Tb) (bit:Nat) (q:Rat) (x:AL × Int):Rat:=if bitD bit x.1.2.2=true then q * T.turned x else q
def Tb.bitF (T:Tb) (l:List (AL × Int)) (q:Rat) (bit:Nat):Rat:=l.foldl (T.stepF bit) (q ^ 2)
def Tb.factor (T:Tb) (p:PL):Rat:=([8,4,2,1].foldl (T.bitF (sgA (p.1,p.2.1))) 1) * mkRat 1 (nuOf p.2.2)
def longB (r:Rat):Bool:=decide (10 ^ 100≤r.num.natAbs) || decide (10 ^ 100≤r.den)
def unitV (k:Nat):V8:=V8.mk8 fun j=>if j=k then 1 else 0
def Tb.addBase (T:Tb) (n q:ByteArray):Except Int Tb :=
 if T.fresh n ≠ 0 then .error (T.fresh n) else if quanB q=false then .error 2 else if T.bases=8 then .error 11 else if unitV T.bases ∈ T.qv then .error 10
 else .ok { T with ents:=T.ents ++ [(n,⟨n,T.bases,1,0,false,unitV T.bases,1⟩)],qv:=T.qv ++ [unitV T.bases],qn:=T.qn ++ [q],bases:=T.bases + 1 }
def Tb.addPrefix (T:Tb) (n b e:ByteArray):Except Int Tb :=
 if nameB n=false then .error 2 else if (lookL T.vals n).isSome=true then .error 10 else match rootD b,expD e with
  | some r,some i=>.ok { T with vals:=T.vals ++ [(n,powD (r:Rat) i)] }
  | _,_=>.error 2
def Tb.define (T:Tb) (n:ByteArray) (e:Ent) (p:PL):Except Int Tb :=
 if (e.has=true∧T.isBase e.id=false) ∨ T.offs (p.1,p.2.1)=true then .error 6 else match T.vec (p.1,p.2.1) with
  | none=>.error 5
  | some v=>if longB (e.fac * T.factor p)=true then .error 11 else .ok { T with ents:=T.ents ++ [(n,{ e with vec:=v,full:=e.fac * T.factor p })] }
def Tb.addUnit (T:Tb) (n f id:ByteArray) (o:List ByteArray):Except Int Tb :=
 if T.fresh n ≠ 0 then .error (T.fresh n) else match fracD f with
  | none=>.error 2
  | some r=>if r.num.sign≤0 then .error 2 else match T.part id with
    | .error v=>.error v
    | .ok p=>match o with
      | []=>T.define n ⟨id,-1,r,0,false,V8.z,0⟩ p
      | t :: _=>match fracD t with
        | none=>.error 2
        | some x=>T.define n ⟨id,-1,r,x,true,V8.z,0⟩ p
def Tb.addQuantity (T:Tb) (n id:ByteArray):Except Int Tb :=
 if quanB n=false then .error 2 else match T.part id with
  | .error v=>.error v
  | .ok p=>match T.vec (p.1,p.2.1) with
    | none=>.error 5
    | some v=>if v ∈ T.qv then .error 10 else .ok { T with qv:=T.qv ++ [v],qn:=T.qn ++ [n] }
def Tb.addAlias (T:Tb) (n id:ByteArray):Except Int Tb :=
 if T.fresh n ≠ 0 then .error (T.fresh n) else match T.part id with
  | .error v=>.error v
  | .ok _=>.ok { T with als:=T.als ++ [(n,id)] }
def baseK:ByteArray:=⟨#[98,97,115,101]⟩
def prefixK:ByteArray:=⟨#[112,114,101,102,105,120]⟩
def unitK:ByteArray:=⟨#[117,110,105,116]⟩
def quantityK:ByteArray:=⟨#[113,117,97,110,116,105,116,121]⟩
def aliasK:ByteArray:=⟨#[97,108,105,97,115]⟩
def kindB (s:ByteArray):Bool:=decide (s=baseK) || (decide (s=prefixK) || (decide (s=unitK) || (decide (s=quantityK) || decide (s=aliasK))))
def Tb.row (T:Tb) (w:List ByteArray):Except Int Tb:=match w with
 | []=>.ok T
 | k :: r =>
   if k=baseK∧r.length=2 then T.addBase (r.getD 0 ⟨#[]⟩) (r.getD 1 ⟨#[]⟩)
   else if k=prefixK∧r.length=3 then T.addPrefix (r.getD 0 ⟨#[]⟩) (r.getD 1 ⟨#[]⟩) (r.getD 2 ⟨#[]⟩)
   else if k=unitK∧(r.length=3 ∨ r.length=4) then T.addUnit (r.getD 0 ⟨#[]⟩) (r.getD 1 ⟨#[]⟩) (r.getD 2 ⟨#[]⟩) (r.drop 3)
   else if k=quantityK∧r.length=2 then T.addQuantity (r.getD 0 ⟨#[]⟩) (r.getD 1 ⟨#[]⟩)
   else if k=aliasK∧r.length=2 then T.addAlias (r.getD 0 ⟨#[]⟩) (r.getD 1 ⟨#[]⟩)
   else if kindB k=true then .error 2 else .ok T
def Tb.rows (T:Tb):List (Int × List ByteArray)→Except (Int × Int) Tb
 | []=>.ok T
 | r :: l=>match T.row r.2 with
   | .error v=>.error (r.1,v)
   | .ok T'=>T'.rows l
end Go.Proofs.YtfflmmbhpchloaaGreatDoor
end
section
namespace Go.Proofs.YtfflmmbhpchloaaGreatDoor
def ltQ (a b:AL):Bool:=lessB a.1 a.2.1 a.2.2 b.1 b.2.1 b.2.2
theorem ltQ_tot {a b:AL} (h:ltQ a b=false) (h':ltQ b a=false):a=b:=by
 obtain ⟨p,n,k⟩:=a
 obtain ⟨p',n',k'⟩:=b
 rcases Bool.eq_false_or_eq_true (eqA p n k p' n' k') with e | e
 ·obtain ⟨rfl,rfl,rfl⟩:=of_decide_eq_true e;rfl
 ·have:=lessB_tri e
  have h1:lessB p n k p' n' k'=false:=h
  have h2:lessB p' n' k' p n k=false:=h'
  rw [h1,h2] at this;cases this
theorem swo_ltQ:Sort.SWO ltQ where
 irrefl x:=lessB_irr
 trans x y z h h':=lessB_tr h h'
 ntrans x y z h h':=by
  rw [Bool.eq_false_iff]
  intro h9
  rcases Bool.eq_false_or_eq_true (ltQ y x) with e | e
  ·have:=lessB_tr (show lessB y.1 y.2.1 y.2.2 x.1 x.2.1 x.2.2=true from e) h9
   have h2:ltQ y z=true:=this
   rw [h'] at h2;cases h2
  ·obtain rfl:=ltQ_tot h e
   rw [h'] at h9;cases h9
def sortQ (l:List AL):List AL:=(Sort.insertionSort ltQ l.toArray 0 l.length).toList
theorem sortQ_facts (l:List AL):(sortQ l).Perm l∧Sort.SortedIn ltQ 0 l.length (Sort.insertionSort ltQ l.toArray 0 l.length)∧(Sort.insertionSort ltQ l.toArray 0 l.length).size=l.length:=by
 obtain ⟨⟨h1,h2,h3⟩,h4⟩:=Sort.insertionSort_holds swo_ltQ l.toArray 0 l.length (Nat.zero_le _) (by simp)
 refine ⟨?_,h4,by simpa using h1⟩
 have hs:(Sort.insertionSort ltQ l.toArray 0 l.length).size=l.length:=by simpa using h1
 have e1:(Sort.insertionSort ltQ l.toArray 0 l.length).extract 0 l.length=Sort.insertionSort ltQ l.toArray 0 l.length:=by
  have:=Array.extract_size (xs:=Sort.insertionSort ltQ l.toArray 0 l.length)
  rwa [hs] at this
 have e2:l.toArray.extract 0 l.length=l.toArray:=by
  simp
 rw [e1,e2] at h3
 exact h3
theorem sortQ_len (l:List AL):(sortQ l).length=l.length:=(sortQ_facts l).1.length_eq
end Go.Proofs.YtfflmmbhpchloaaGreatDoor
end
section
open Go.RowKit
namespace Go.Proofs.YtfflmmbhpchloaaGreatDoor
structure Sorts (g:Nat) (lb:Array Value) (sf:Nat) (sb:Array Value) (n blk:Nat) (R:Array AL→World→Prop):Prop where
 less:∀ (dk:Array AL) (W:World),R dk W→dk.size=n → ∀ i j:Nat,i < n→j < n→Calls Tryz.prog g (#[.int .i64 i,.int .i64 j] ++ lb) W fun e w'=>e = .returned (.bool (ltQ dk[i]! dk[j]!))∧Bel W w'∧R dk w'
 swap:2≤n → ∀ (dk:Array AL) (W:World),R dk W→dk.size=n → ∀ i j:Nat,i < n→j < n → ∃ W',(callFunc sf (#[.int .i64 i,.int .i64 j] ++ sb)).run Tryz.prog W = .ok (.value (.tuple #[])) W'∧R (Sort.swp dk i j) W' ∧ ∀ p vs,p ≠ blk→At W p vs→At W' p vs
 alloc:∀ (dk:Array AL) (W:World) (o:Obj),R dk W→R dk (W.alloc o)
 drew:∀ (dk:Array AL) (W:World),R dk W→R dk W.drew
theorem insSort_any {g sf n blk a b:Nat} {lb sb:Array Value} {R:Array AL→World→Prop} (S:Sorts g lb sf sb n blk R) (eg:∀ args w,(callFunc g args).run Tryz.prog w = .ok (.enter g args) w) {d:Array AL} {w:World} (h:R d w) (hs:d.size=n) (hab:a≤b) (hb:b≤n) (hn:n≤12) (hblk:blk < w.heap.size) :
 Calls Tryz.prog 165 #[.agg #[.func (.func g) #[] lb,.func (.func sf) #[] sb],.int .i64 a,.int .i64 b] w fun e w'=>e = .returned (.tuple #[])∧R (Sort.insertionSort ltQ d a b) w':=by
 obtain ⟨W1,hW1⟩:∃ X,X=w.alloc (.cells #[.func (.func g) #[] lb,.func (.func sf) #[] sb] 206):=⟨_,rfl⟩
 have HD:At W1 w.heap.size [.func (.func g) #[] lb,.func (.func sf) #[] sb]:=by rw [hW1];exact at_new0 _ _ _
 have HR:Hid (R d W1):=hW1 ▸ S.alloc _ _ _ h
 have HW:=khide hW1
 have HS:=khide S
 obtain ⟨db,hdb⟩:∃ db,db=w.heap.size:=⟨_,rfl⟩
 have hne:db ≠ blk:=by omega
 rw [← hdb] at HD
 clear hW1 h S
 go_enter Tryz.func165,Tryz.ntmps165
 go_upto_region 1 with fail
 rw [← HW.out,← hdb]
 clear hdb
 go_wp2_with fail
 go_loopw [6] (fun vi wr=>∃ (i:Nat) (dk:Array AL),vi = .int .i64 i∧a < i∧i≤b + 1∧dk.size=n∧Hid (R dk wr)∧Hid (At wr db [.func (.func g) #[] lb,.func (.func sf) #[] sb])∧Hid (Sort.insOuter ltQ a b i dk=Sort.insOuter ltQ a b (a + 1) d)) (fun vi _=>b + 1 - (intOf vi).toNat)
 case atStart=>exact ⟨a + 1,d,by go_num,by omega,by omega,hs,HR,HD,rfl⟩
 case round =>
  clear HR HD
  obtain ⟨i,dk,rfl,hai,hib,hsk,HR,HD,HO⟩:=hrel
  by_cases hlt:i < b
  ·have k0:(i:Int) < (b:Int):=by omega
   go_wp2_with fail
   go_loopw [7] (fun vj wr2=>∃ (j:Nat) (dj:Array AL),vj = .int .i64 j∧a≤j∧j≤i∧dj.size=n∧Hid (R dj wr2)∧Hid (At wr2 db [.func (.func g) #[] lb,.func (.func sf) #[] sb])∧Hid (Sort.insInner ltQ a j dj=Sort.insInner ltQ a i dk)) (fun vj _=>(intOf vj).toNat)
   case atStart=>exact ⟨i,dk,rfl,by omega,Nat.le_refl _,hsk,HR,HD,rfl⟩
   case round =>
    clear HR HD
    obtain ⟨j,dj,rfl,haj,hji,hsj,HR,HD,HI⟩:=hrel
    have hd_0:=HD.out.c0;have hd_l:=HD.out.lt
    have OUT:Hid ((j≤a ∨ ltQ dj[j]! dj[j - 1]! = false)→Sort.insOuter ltQ a b (i + 1) dj=Sort.insOuter ltQ a b (a + 1) d):=fun hx=>by
     rw [← HO.out,insOuter_go _ _ _ _ _ hlt,← HI.out,insInner_stop _ _ _ _ hx]
    by_cases hja:a < j
    ·have k1:(a:Int) < (j:Int):=by omega
     have hl:=HS.out.less dj _ HR.out hsj j (j - 1) (by omega) (by omega)
     rw [show (((j - 1:Nat):Int))=(j:Int) - 1 by omega] at hl
     cases hlv:ltQ dj[j]! dj[j - 1]! with
     | true =>
       rw [hlv] at hl
       go_wp2_with (go_at_fn g;refine hl.mono ?_;rintro e wx ⟨rfl,hbel,hR'⟩;replace HD:=khide (HD.out.up hbel.hid);clear hd_0 hd_l;have hd_1:=HD.out.c1;have hd_l:=HD.out.lt)
       obtain ⟨W',hsw,hR2,hfar⟩:=HS.out.swap (by omega) dj _ hR' hsj j (j - 1) (by omega) (by omega)
       rw [show (((j - 1:Nat):Int))=(j:Int) - 1 by omega] at hsw
       rw [hsw,Oper.upon_value]
       have HD2:Hid (At W' db [.func (.func g) #[] lb,.func (.func sf) #[] sb]):=hfar _ _ hne HD.out
       have HR2:Hid (R (Sort.swp dj j (j - 1)) W'):=hR2
       clear hR2 hR' hfar hsw hl
       go_wp2_with fail
       go_roundw
       case rel=>exact ⟨j - 1,Sort.swp dj j (j - 1),by congr 1 <;> omega,by omega,by omega,by rw [Sort.size_swp];exact hsj,HR2,HD2,khide (by rw [← HI.out,insInner_go ltQ a j dj hja hlv])⟩
       case measure=>simp [intOf];omega
     | false =>
       rw [hlv] at hl
       go_wp2_with (go_at_fn g;refine hl.mono ?_;rintro e wx ⟨rfl,hbel,hR'⟩;replace HD:=khide (HD.out.up hbel.hid))
       go_roundw
       case rel=>exact ⟨i + 1,dj,by go_num,by omega,by omega,hsj,hR',HD,khide (OUT.out (Or.inr hlv))⟩
       case measure=>simp [intOf];omega
    ·have k1:¬ (a:Int) < (j:Int):=by omega
     go_wp2_with fail
     go_roundw
     case rel=>exact ⟨i + 1,dj,by go_num,by omega,by omega,hsj,HR,HD,khide (OUT.out (Or.inl (by omega)))⟩
     case measure=>simp [intOf];omega
  ·have k0:¬ (i:Int) < (b:Int):=by omega
   go_wp2_with fail
   go_end0
   exact ⟨rfl,by unfold Sort.insertionSort;rw [← HO.out,insOuter_stop _ _ _ _ _ hlt];exact HR.out⟩
theorem pdq_any {g sf n blk:Nat} {lb sb:Array Value} {R:Array AL→World→Prop} (S:Sorts g lb sf sb n blk R) (eg:∀ args w,(callFunc g args).run Tryz.prog w = .ok (.enter g args) w) {d:Array AL} {w:World} (lim:Int) (h:R d w) (hs:d.size=n) (hn:n≤12) (hblk:blk < w.heap.size) :
 Calls Tryz.prog 113 #[.agg #[.func (.func g) #[] lb,.func (.func sf) #[] sb],.int .i64 0,.int .i64 n,.int .i64 lim] w fun e w'=>e = .returned (.tuple #[])∧R (Sort.insertionSort ltQ d 0 n) w':=by
 obtain ⟨W1,hW1⟩:∃ X,X=w.alloc (.cells #[.func (.func g) #[] lb,.func (.func sf) #[] sb] 206):=⟨_,rfl⟩
 have HD:At W1 w.heap.size [.func (.func g) #[] lb,.func (.func sf) #[] sb]:=by rw [hW1];exact at_new0 _ _ _
 have HR:R d W1:=hW1 ▸ S.alloc _ _ _ h
 have hsz:w.heap.size < W1.heap.size:=HD.lt
 have hi:Calls Tryz.prog 165 #[.agg #[.func (.func g) #[] lb,.func (.func sf) #[] sb],.int .i64 (0:Nat),.int .i64 n] W1 fun e w'=>e = .returned (.tuple #[])∧R (Sort.insertionSort ltQ d 0 n) w':=insSort_any S eg HR hs (Nat.zero_le _) (Nat.le_refl _) hn (by omega)
 rw [show ((0:Nat):Int)=0 from rfl] at hi
 have HI:=khide hi
 have HW:=khide hW1
 have e120:∀ args w,(callFunc 165 args).run Tryz.prog w = .ok (.enter 165 args) w:=enters_of Tryz.func165 (by kernel_rfl) rfl
 obtain ⟨db,hdb⟩:∃ db,db=w.heap.size:=⟨_,rfl⟩
 rw [← hdb] at HD
 have hd_0:=HD.c0;have hd_1:=HD.c1;have hd_l:=HD.lt
 have k1:(n:Int)≤12:=by omega
 clear hW1 h S HR hi hsz hs eg
 go_enter Tryz.func113,Tryz.ntmps113
 go_upto_region 1 with fail
 rw [← HW.out,← hdb]
 clear hdb
 go_wp2_with fail
 refine wp_loop_rounds 1 ?_
 rw [rounds_succ]
 go_wp2_with (go_at_fn 165;refine HI.out.mono ?_;rintro e w' ⟨rfl,hR⟩)
 (try simp only [Exit.inBlock,Exit.then]);refine bodyPost_ret (results_none rfl _ _ _) rfl ?_
 exact ⟨rfl,hR⟩
noncomputable def atomsT:TypeInfo:=(Tryz.prog.info? 39).get (by kernel_rfl)
noncomputable def atomE:TypeInfo:=(Tryz.prog.info? 96).get (by kernel_rfl)
def swF (n:Nat):Nat:=if n=0 then 154 else if n=1 then 155 else 162
noncomputable def swB (A:Option Addr) (n c:Nat):Array Value:=if n≤1 then #[] else #[.slice A n c,typeHandle Tryz.prog 96]
theorem swK (n:Nat):Lib.swapperK n atomE 25=if n=0 then 1 else if n=1 then 2 else 9:=by
 have a:atomE.hasPointers=true:=by kernel_rfl
 have b:atomE.bytes=40:=by kernel_rfl
 by_cases h0:n=0
 ·subst h0;simp [Lib.swapperK]
 ·by_cases h1:n=1
  ·subst h1;simp [Lib.swapperK]
  ·simp [Lib.swapperK,a,b,h0,h1]
theorem swF_at (n : Nat) : Tryz.prog.funcs.findIdx? (·.name == "internal/reflectlite" ++ ".Swapper$" ++ toString (Lib.swapperK n atomE 25)) = some (swF n) := by
 rw [swK]
 unfold swF
 by_cases h0:n=0
 ·rw [if_pos h0,if_pos h0];kernel_rfl
 ·rw [if_neg h0,if_neg h0]
  by_cases h1:n=1
  ·rw [if_pos h1,if_pos h1];kernel_rfl
  ·rw [if_neg h1,if_neg h1];kernel_rfl
theorem swB_at (A:Option Addr) (n c:Nat):(if Lib.swapperK n atomE 25≤2 then #[] else #[Value.slice A n c,typeHandle Tryz.prog 96])=swB A n c:=by
 rw [swK]
 unfold swB
 by_cases h0:n=0
 ·subst h0;rfl
 ·by_cases h1:n=1
  ·subst h1;rfl
  ·rw [if_neg h0,if_neg h1,if_neg (show ¬ 9≤2 by omega),if_neg (show ¬ n≤1 by omega)]
end Go.Proofs.YtfflmmbhpchloaaGreatDoor
end
