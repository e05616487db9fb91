/- Each theorem here says its own conditions. -/
import Derived.Test.YtfflmmbhpchloaaGreatDoorGTpwc2
import Derived.Maps.OwnSet
import Derived.Maps.OwnOps
import Derived.StringKeys
import Derived.Laws.MakeOwn
import Derived.Deep.LoopGhost
set_option maxRecDepth 100000
set_option maxHeartbeats 16000000
section
open Go.RowKit
namespace Go.Proofs.YtfflmmbhpchloaaGreatDoor
theorem skeyed:Go.Maps.Keyed Tryz.prog 9:=Go.Maps.string_keyed Tryz.underlying9
def slit (s:ByteArray):Lit:=.string s.data.toList
theorem skeyOf {s:ByteArray} (h:s.size≤2000000):keyOf Tryz.prog 9 (.string s)=some (slit s):=Go.WideMaps.keyOf_string_mk Tryz.underlying9 (by unfold maxLen;omega)
theorem slit_inj {a b:ByteArray} (h:slit a=slit b):a=b:=by
 unfold slit at h
 injection h with h
 exact ByteArray.ext (Array.ext' h)
def SetIs (w:World) (b:Nat) (xs:List ByteArray):Prop:=∃ D:DataW Unit,w.ownsMap Tryz.prog 9 unitElem b xs.length D∧Maps.IsMap D ∧ ∀ s:ByteArray,Maps.has D (slit s)=hasB xs s
theorem setIs_new (w:World):SetIs (w.alloc (.map #[] 0)) w.heap.size [] :=
 ⟨.map [],World.ownsMap_made _ _ _ _,Maps.isMap_empty,fun _=>rfl⟩
theorem unit_zero (w:World):(zeroValue 296).run Tryz.prog w = .ok (.agg #[]) w:=by kernel_rfl
theorem SetIs.look {w:World} {b:Nat} {xs:List ByteArray} {s:ByteArray} (h:SetIs w b xs) (hs:s.size≤2000000):(Instr.lookup 295 (.map (some b)) (.string s) true).run Tryz.prog w = .ok (.tuple #[.agg #[],.bool (hasB xs s)]) w:=by
 obtain ⟨D,h1,_,h3⟩:=h
 obtain ⟨v,ps,hrun,hv⟩:=h1.look_ok skeyed Tryz.underlying295 (unit_zero _) unitElem_mk (skeyOf hs)
 obtain ⟨rfl,_⟩:=unitElem_inv hv
 rw [hrun,h3]
theorem hasB_snoc (xs:List ByteArray) (x y:ByteArray):hasB (xs ++ [x]) y=(hasB xs y || decide (x=y)):=by
 unfold hasB;rw [List.any_append];simp
theorem SetIs.put {w:World} {b:Nat} {xs:List ByteArray} {s:ByteArray} (h:SetIs w b xs) (hs:s.size≤2000000) (hl:xs.length≤2000000) :
 ∃ w',(Instr.mapUpdate 295 (.map (some b)) (.string s) (.agg #[])).run Tryz.prog w = .ok () w'∧SetIs w' b (xs ++ [s])∧w.grownBy w' (some b):=by
 obtain ⟨D,h1,h2,h3⟩:=h
 obtain ⟨w',hr,ho,hg⟩:=h1.update skeyed Tryz.underlying295 (by unfold maxLen;omega) (skeyOf hs) unitElem_mk
 refine ⟨w',hr,⟨_,by simpa using ho,h2.put _ _,fun c=>?_⟩,hg⟩
 rw [hasB_snoc]
 by_cases e:s=c
 ·subst e
  rw [Maps.has_put_same h2 (skeyed.key (skeyOf hs))];simp
 ·rw [Maps.has_put_other (fun h5=>e (slit_inj h5).symm),h3,decide_eq_false e,Bool.or_false]
theorem SetIs.lt {w:World} {b:Nat} {xs:List ByteArray} (h:SetIs w b xs):b < w.heap.size:=by
 obtain ⟨D,h1,_⟩:=h;exact h1.lt
theorem SetIs.up {w w':World} {b:Nat} {xs:List ByteArray} (h:SetIs w b xs) (hb:Hid (Below w.heap.size w w')):SetIs w' b xs:=by
 have e:=hb.out.block b h.lt
 obtain ⟨D,⟨es,clock,h1,F,hs,hD⟩,h2,h3⟩:=h
 exact ⟨D,⟨es,clock,e.trans h1,F,hs,hD⟩,h2,h3⟩
theorem SetIs.al {w:World} {b:Nat} {xs:List ByteArray} (h:SetIs w b xs) (o:Obj):SetIs (w.alloc o) b xs:=h.up ((Below.refl _ _).alloc (Nat.le_refl _) o)
theorem isGoodList_any {A:Option Addr} {n c:Nat} {xs:List ByteArray} {w:World} (h:Ss w A xs) (hn:n=xs.length) (hl:n≤1000000) (hs:∀ x ∈ xs,x.size≤2000000):Calls Tryz.prog 207 #[.slice A n c] w (RetB w (goodL xs)):=by
 have CG:=khide wgood_any
 have CR:Hid (∀ (s:ByteArray) (W:World),s.size≤2000000→Calls Tryz.prog 224 #[.string s] W (RetB W (resB s))):=fun s W h=>isReserved_h (by omega) rfl W
 have HN:=khide hn
 have HS:=khide hs
 have hmm:=@run_makeMap Tryz.prog
 clear hn hs
 go_enter Tryz.func207,Tryz.ntmps207
 go_upto_region 3 with fail
 refine kwp_named ?_
 intro W0 hW0
 have HB0:Bel w W0:=by rw [hW0];exact (Bel.refl w).al _
 have HT0:SetIs W0 w.heap.size []:=by rw [hW0];exact setIs_new w
 obtain ⟨b,hb⟩:∃ b,b=w.heap.size:=⟨_,rfl⟩
 rw [← hb] at HT0
 rw [← hb]
 have HBB:Hid (w.heap.size≤b):=Nat.le_of_eq hb.symm
 clear hW0 hmm hb
 go_loopw [11] (fun iv wr=>∃ k:Nat,k≤n∧iv = .int .i64 (k:Int)∧Hid (Bel w wr)∧Hid (SetIs wr b (xs.take k))∧Hid (goodL (xs.take k)=true)) (fun iv _=>n - (intOf iv).toNat)
 case atStart=>exact ⟨0,Nat.zero_le _,rfl,HB0,HT0,goodL_nil⟩
 case round =>
  obtain ⟨k,hk,rfl,HB,HT,HG⟩:=hrel
  by_cases hlt:k < n
  ·have hx:k < xs.length:=by rw [← HN.out];exact hlt
   obtain ⟨ad,rfl,had,hcell⟩:=(h.up HB.out.hid).out.at_ hx
   obtain ⟨x,hxe⟩:∃ x,x=xs[k]:=⟨_,rfl⟩
   rw [← hxe] at hcell
   have HX:Hid (x.size≤2000000):=HS.out x (by rw [hxe];exact List.getElem_mem hx)
   obtain ⟨b1,hb1⟩:∃ v,hasB (xs.take k) x=v:=⟨_,rfl⟩
   obtain ⟨b2,hb2⟩:∃ v,goodW x.data.toList=v:=⟨_,rfl⟩
   obtain ⟨b3,hb3⟩:∃ v,resB x=v:=⟨_,rfl⟩
   have hlook:=HT.out.look HX.out
   rw [hb1] at hlook
   have C2:Hid (∀ W:World,Calls Tryz.prog 56 #[.string x] W fun e w'=>e = .returned (.bool b2)∧W=w'):=fun W=>hb2 ▸ CG.out x W
   have C3:Hid (∀ W:World,Calls Tryz.prog 224 #[.string x] W (RetB W b3)):=fun W=>hb3 ▸ CR.out x W HX.out
   have HV:Hid (goodL (xs.take (k + 1))=((b2 && !b3) && !b1)):=by
    unfold Hid
    rw [goodL_take hx,HG.out,← hxe,hb1]
    unfold mayB;rw [hb2,hb3];rfl
   have HF:Hid (goodL (xs.take (k + 1))=false→goodL xs=false):=goodL_bad hx
   have HX2:Hid (xs.take (k + 1)=xs.take k ++ [x]):=by rw [hxe];exact List.take_succ_eq_append_getElem hx
   have HKL:Hid ((xs.take k).length≤2000000):=by unfold Hid;rw [List.length_take];omega
   clear hb1 hb2 hb3 hxe hx
   have HB1:Hid (Bel w (wr.alloc (.cells #[] 296))):=HB.out.al _
   by_cases hgo:b1=false∧b2=true∧b3=false
   ·obtain ⟨rfl,rfl,rfl⟩:=hgo
    go_upto_region 8 with (first | (go_at_call 56;(with_reducible refine (C2.out _).mono ?_);rintro e w1 ⟨rfl,rfl⟩) | (go_at_call 224;(with_reducible refine (C3.out _).mono ?_);rintro e w2 ⟨rfl,hb2⟩;replace HB1:Hid (Bel w w2):=HB1.out.up hb2.hid;have HT2:Hid (SetIs w2 b (xs.take k)):=(HT.out.al _).up hb2.hid;clear hb2 hlook hcell) | fail)
    obtain ⟨W3,hrun,HT3,hgrow⟩:=HT2.out.put HX.out HKL.out
    have HB3:Hid (Bel w W3):=Below.grown HB1.out hgrow HB1.out.size (fun q e=>by injection e with e;have:=HBB.out;omega)
    clear HT HT2 hgrow HB1
    go_wp2
    go_roundw
    case rel=>exact ⟨k + 1,by omega,by go_num,HB3,by rw [HX2.out];exact HT3,HV.out⟩
    case measure=>simp [intOf];omega
   ·have HFF:Hid (goodL xs=false):=HF.out (by rw [HV.out];cases b1 <;> cases b2 <;> cases b3 <;> simp at hgo ⊢)
    cases b1 <;> cases b2 <;> cases b3
    all_goals (try (exfalso;exact hgo ⟨rfl,rfl,rfl⟩))
    all_goals clear hgo
    all_goals go_wp2_with (first | (go_at_call 56;(with_reducible refine (C2.out _).mono ?_);rintro e w1 ⟨rfl,rfl⟩) | (go_at_call 224;(with_reducible refine (C3.out _).mono ?_);rintro e w2 ⟨rfl,hb2⟩;replace HB1:Hid (Bel w w2):=HB1.out.up hb2.hid) | fail)
    all_goals go_ret
    all_goals exact ⟨ybool HFF.out.symm,HB1.out⟩
  ·obtain rfl:k=n:=by omega
   go_wp2
   go_ret
   refine ⟨ybool ?_,HB.out⟩
   have h3:=HG.out
   rw [List.take_of_length_le (by rw [← HN.out];exact Nat.le_refl _)] at h3
   exact h3.symm
theorem good_any {A B:Option Addr} {n c m d:Nat} {xs ys:List ByteArray} {w:World} (h:Ss w A xs) (hn:n=xs.length) (hl:n≤1000000) (hs:∀ x ∈ xs,x.size≤2000000) (h':Ss w B ys) (hm:m=ys.length) (hl':m≤1000000) (hs':∀ x ∈ ys,x.size≤2000000) :
 Calls Tryz.prog 176 #[.agg #[.slice A n c,.slice B m d]] w (RetB w (goodL xs && goodL ys)):=by
 have C1:Hid (∀ W,Bel w W→Calls Tryz.prog 207 #[.slice A n c] W (RetB W (goodL xs))):=fun W hb=>isGoodList_any (h.up hb.hid) hn hl hs
 have C2:Hid (∀ W,Bel w W→Calls Tryz.prog 207 #[.slice B m d] W (RetB W (goodL ys))):=fun W hb=>isGoodList_any (h'.up hb.hid) hm hl' hs'
 obtain ⟨b1,hb1⟩:∃ b,goodL xs=b:=⟨_,rfl⟩
 obtain ⟨b2,hb2⟩:∃ b,goodL ys=b:=⟨_,rfl⟩
 rw [hb1] at C1
 rw [hb2] at C2
 rw [hb1,hb2]
 clear hb1 hb2 h h' hn hm hl hl' hs hs'
 obtain ⟨W1,hW1⟩:∃ X,X=w.alloc (.cells #[.slice A n c,.slice B m d] 62):=⟨_,rfl⟩
 have HA:At W1 w.heap.size [.slice A n c,.slice B m d]:=by rw [hW1];exact at_new0 _ _ _
 have HB:Bel w W1:=by rw [hW1];exact (Bel.refl w).al _
 have HW:=khide hW1
 clear hW1
 have ha_0:=HA.c0;have ha_1:=HA.c1;have ha_l:=HA.lt
 cases b1
 all_goals
  go_enter Tryz.func176,Tryz.ntmps176
  go_upto_region 1 with fail
  rw [← HW.out]
  go_wp2_with (first | (go_at_call 207;(with_reducible refine (C1.out _ HB).mono ?_);rintro e w1 ⟨rfl,hb⟩;replace HA:=HA.up hb.hid;replace HB:=HB.up hb.hid;clear ha_0 ha_1 ha_l;have ha_0:=HA.c0;have ha_1:=HA.c1;have ha_l:=HA.lt) | (go_at_call 207;(with_reducible refine (C2.out _ HB).mono ?_);rintro e w2 ⟨rfl,hb2⟩;replace HB:=HB.up hb2.hid) | fail)
  go_ret
  exact ⟨rfl,HB⟩
def lookL {α:Type} (l:List (ByteArray × α)) (s:ByteArray):Option α:=match l with
 | []=>none
 | p :: r=>if p.1=s then some p.2 else lookL r s
section
variable {α β:Type} {l l':List (ByteArray × α)} {s t:ByteArray} {v:α}
theorem lookL_append:lookL (l ++ l') s=(lookL l s).or (lookL l' s):=by
 induction l with
 | nil=>rfl
 | cons p r ih =>
   show (if p.1=s then some p.2 else lookL (r ++ l') s)=Option.or (if p.1=s then some p.2 else lookL r s) (lookL l' s)
   by_cases h:p.1=s
   ·rw [if_pos h,if_pos h];rfl
   ·rw [if_neg h,if_neg h,ih]
theorem lookL_one:lookL [(t,v)] s=if t=s then some v else none:=rfl
theorem lookL_mem (h:lookL l s=some v):(s,v) ∈ l:=by
 induction l with
 | nil=>cases h
 | cons p r ih =>
   unfold lookL at h
   by_cases e:p.1=s
   ·rw [if_pos e] at h;injection h with h;rw [← e,← h];exact List.mem_cons_self
   ·rw [if_neg e] at h;exact List.mem_cons_of_mem _ (ih h)
theorem lookL_map (f:α→β):lookL (l.map fun p=>(p.1,f p.2)) s=(lookL l s).map f:=by
 induction l with
 | nil=>rfl
 | cons p r ih =>
   show (if p.1=s then some (f p.2) else lookL (r.map fun p=>(p.1,f p.2)) s)=Option.map f (if p.1=s then some p.2 else lookL r s)
   by_cases h:p.1=s
   ·rw [if_pos h,if_pos h];rfl
   ·rw [if_neg h,if_neg h,ih]
theorem lookL_none:lookL l s=none ↔ s ∉ l.map (·.1):=by
 induction l with
 | nil=>simp [lookL]
 | cons p r ih =>
   show (if p.1=s then some p.2 else lookL r s)=none ↔ _
   by_cases h:p.1=s
   ·rw [if_pos h];simp [h]
   ·rw [if_neg h,ih];simp [Ne.symm h]
theorem lookL_has:(lookL l s).isSome=hasB (l.map (·.1)) s:=by
 cases h:lookL l s with
 | none =>
   have:=lookL_none.1 h
   cases hb:hasB (l.map (·.1)) s with
   | false=>rfl
   | true=>exact absurd (hasB_iff.1 hb) this
 | some v =>
   exact (hasB_iff.2 (List.mem_map_of_mem (f:=(·.1)) (lookL_mem h))).symm
end
theorem skeyB {s:ByteArray} (h:s.size≤9223372036854775807):keyOf Tryz.prog 9 (.string s)=some (slit s):=Go.WideMaps.keyOf_string_mk Tryz.underlying9 (by unfold maxLen;omega)
def tokE (v:Value):Option (DataW Value × List MemPlace):=some (.held v,[])
def MapV (w:World) (b:Nat) (l:List (ByteArray × Value)):Prop:=∃ D:DataW Value,w.ownsMap Tryz.prog 9 tokE b l.length D∧Maps.IsMap D ∧
 ∀ s:ByteArray,Maps.has D (slit s)=(lookL l s).isSome ∧ ∀ z,D.atKey (slit s) z=match lookL l s with
  | some v=>.held v
  | none=>z
theorem mapV_new (w:World):MapV (w.alloc (.map #[] 0)) w.heap.size [] :=
 ⟨.map [],World.ownsMap_made _ _ _ _,Maps.isMap_empty,fun _=>⟨rfl,fun _=>rfl⟩⟩
section
variable {w w':World} {b:Nat} {l:List (ByteArray × Value)} {s:ByteArray} {t e:TypeId} {z:Value}
theorem MapV.lt (h:MapV w b l):b < w.heap.size:=by obtain ⟨D,h1,_⟩:=h;exact h1.lt
theorem MapV.keep (h:MapV w b l) (hb:w'.heap[b]? = w.heap[b]?):MapV w' b l:=by
 obtain ⟨D,⟨es,clock,h1,F,hs,hD⟩,h2,h3⟩:=h
 exact ⟨D,⟨es,clock,hb.trans h1,F,hs,hD⟩,h2,h3⟩
theorem MapV.up (h:MapV w b l) (hb:Hid (Below w.heap.size w w')):MapV w' b l:=h.keep (hb.out.block b h.lt)
theorem MapV.not_cells (h:MapV w b l) {cs:Array Value} {t:TypeId} {fr:Nat × Nat} (hc:w.heap[b]? = some (.cells cs t fr)):False:=by
 obtain ⟨D,⟨es,clock,h1,_⟩,_⟩:=h
 rw [h1] at hc
 cases hc
theorem MapV.look (h:MapV w b l) (ht:Tryz.prog.underlying t=some (.map 9 e)) (hz:∀ w,(zeroValue e).run Tryz.prog w = .ok z w) (hs:s.size≤9223372036854775807) :
 (Instr.lookup t (.map (some b)) (.string s) true).run Tryz.prog w = .ok (.tuple #[(lookL l s).getD z,.bool (lookL l s).isSome]) w:=by
 obtain ⟨D,h1,_,h3⟩:=h
 obtain ⟨v,ps,hrun,hv⟩:=h1.look_ok skeyed ht (hz _) (zd:=.held z) (zp:=[]) rfl (skeyB hs)
 rw [(h3 s).2] at hv
 rw [hrun,(h3 s).1]
 cases hl:lookL l s with
 | none=>rw [hl] at hv;injection hv with hv;injection hv with hv _;injection hv with hv;rw [hv];rfl
 | some u=>rw [hl] at hv;injection hv with hv;injection hv with hv _;injection hv with hv;rw [hv];rfl
theorem MapV.get (h:MapV w b l) (ht:Tryz.prog.underlying t=some (.map 9 e)) (hz:∀ w,(zeroValue e).run Tryz.prog w = .ok z w) (hs:s.size≤9223372036854775807) :
 (Instr.lookup t (.map (some b)) (.string s) false).run Tryz.prog w = .ok ((lookL l s).getD z) w:=by
 obtain ⟨D,h1,_,h3⟩:=h
 obtain ⟨v,ps,hrun,hv⟩:=h1.lookup skeyed ht (hz _) (zd:=.held z) (zp:=[]) rfl (skeyB hs)
 rw [(h3 s).2] at hv
 rw [hrun]
 cases hl:lookL l s with
 | none=>rw [hl] at hv;injection hv with hv;injection hv with hv _;injection hv with hv;rw [hv];rfl
 | some u=>rw [hl] at hv;injection hv with hv;injection hv with hv _;injection hv with hv;rw [hv];rfl
theorem MapV.put {v:Value} (h:MapV w b l) (ht:Tryz.prog.underlying t=some (.map 9 e)) (hs:s.size≤2000000) (hl:l.length≤2000000) (hn:lookL l s=none) :
 ∃ w',(Instr.mapUpdate t (.map (some b)) (.string s) v).run Tryz.prog w = .ok () w'∧MapV w' b (l ++ [(s,v)])∧w.grownBy w' (some b):=by
 obtain ⟨D,h1,h2,h3⟩:=h
 obtain ⟨w',hr,ho,hg⟩:=h1.update skeyed ht (by unfold maxLen;omega) (skeyOf hs) (d:=.held v) (ps:=[]) rfl
 refine ⟨w',hr,⟨_,by simpa using ho,h2.put _ _,fun c=>?_⟩,hg⟩
 rw [lookL_append,lookL_one]
 by_cases e:s=c
 ·subst e
  rw [Maps.has_put_same h2 (skeyed.key (skeyOf hs)),hn,if_pos rfl]
  exact ⟨rfl,fun z=>by rw [Maps.atKey_put_same h2 (skeyed.key (skeyOf hs))];rfl⟩
 ·have hne:slit c ≠ slit s:=fun h5=>e (slit_inj h5).symm
  rw [Maps.has_put_other hne,if_neg e,Option.or_none]
  exact ⟨(h3 c).1,fun z=>by rw [Maps.atKey_put_other hne];exact (h3 c).2 z⟩
end
theorem lay7:(∀ (α:Type) (l:List α) (i:Nat) (h:i < l.toArray.size),l.toArray[i]=l[i]'(by simpa using h))∧(∀ (α:Type) (x:α) (l:List α) (h:0 < (x :: l).length),(x :: l)[0]=x)∧(∀ (α:Type) (x:α) (l:List α) (i:Nat) (h:i + 1 < (x :: l).length),(x :: l)[i + 1]=l[i]'(by simpa using h)) ∧
 (∀ (α:Type) (l:List α) (i:Nat) (x:α),l.toArray.setIfInBounds i x=(l.set i x).toArray)∧(∀ (α:Type) (x y:α) (l:List α),(x :: l).set 0 y=y :: l)∧(∀ (α:Type) (x y:α) (l:List α) (i:Nat),(x :: l).set (i + 1) y=x :: l.set i y) :=
 ⟨fun _ _ _ _=>by simp,fun _ _ _ _=>rfl,fun _ _ _ _ _=>rfl,fun _ _ _ _=>by simp,fun _ _ _ _=>rfl,fun _ _ _ _ _=>rfl⟩
section
variable {P:Program} {md:Region.Mode} {ops:Array Oper} {Q:Exit→Act→World→Prop} {S:World→Prop}
theorem tq (i:Nat) {oi:Oper} {v:Value} {fuel:Nat} {listed m:Array Bool} {a b:Act} {w:World} (h:wpAnyH P md ops Q S fuel m b w)
 (hi:ops[i]? = some oi:=by rfl) (hy:∀ w,S w→(execOp a.eval oi).run P w = .ok (.value v) w:=by (intro w hSw;(try dsimp only at hSw);go_simp);(try (with_reducible rfl)))
 (hs:Region.noSelect ops=true:=by decide +kernel) (hf:Region.free md ops listed i=true:=by decide +kernel) (hr:(Region.ready md ops listed).contains i=true:=by decide +kernel)
 (hQ:∀ c a w,Q (.panic c) (a.put oi.dst v) w→Q (.panic c) a w:=by exact fun _ _ _ h=>h) (hg:Region.wanted oi (yielded ops a.tmps)=true:=by rfl) (hS:S w:=by assumption) (hm:listed.setIfInBounds i true=m:=by (try simp only [lay7]);all_goals exact rfl) (hb:a.put oi.dst v=b:=by (try simp only [lay7,Act.put]);all_goals exact rfl):wpAnyH P md ops Q S (fuel + 1) listed a w :=
 wpAnyH_take hi hs hf hr hQ (Or.inl ⟨hg,hy⟩) hS (hm ▸ hb ▸ h)
theorem sk (i:Nat) {o:Oper} {fuel:Nat} {listed:Array Bool} {a:Act} {w:World}
 (h:∀ K':Act→World→Prop,Shut (∀ a w,S w→(S w→wpAnyH P md ops Q S fuel (listed.setIfInBounds i true) a w)→K' a w)→if Region.wanted o (yielded ops a.tmps)=true then Oper.wp P o a w K' Q else K' (a.put o.dst undef) w)
 (ho:ops[i]? = some o:=by rfl) (hr:Region.ready md ops listed=[i]:=by decide +kernel):wpAnyH P md ops Q S (fuel + 1) listed a w :=
 wpAnyH_ready hr (by simp) (AllReadyH.cons ho h AllReadyH.nil)
theorem pk (i:Nat) {oi:Oper} {fuel:Nat} {listed m:Array Bool} {a b:Act} {w:World} (h:wpAnyH P md ops Q S fuel m b w)
 (hi:ops[i]? = some oi:=by rfl) (hs:Region.noSelect ops=true:=by decide +kernel) (hf:Region.free md ops listed i=true:=by decide +kernel) (hr:(Region.ready md ops listed).contains i=true:=by decide +kernel)
 (hQ:∀ c a w,Q (.panic c) (a.put oi.dst undef) w→Q (.panic c) a w:=by exact fun _ _ _ h=>h) (hg:Region.wanted oi (yielded ops a.tmps)=false:=by rfl) (hS:S w:=by assumption) (hm:listed.setIfInBounds i true=m:=by (try simp only [lay7]);all_goals exact rfl) (hb:a.put oi.dst undef=b:=by (try simp only [lay7,Act.put]);all_goals exact rfl):wpAnyH P md ops Q S (fuel + 1) listed a w :=
 wpAnyH_take hi hs hf hr hQ (Or.inr ⟨hg,rfl⟩) hS (hm ▸ hb ▸ h)
end
theorem Tryz.infoBool:(Tryz.prog.info? 4).map (fun i=>(i.zero,i.size,i.bytes))=some (some (.bool false),1,1):=by kernel_rfl
theorem make_bools (n:Nat) (hn:n≤281474976710656) (w:World):(Instr.makeSlice 287 (.int .i64 (n:Int)) (.int .i64 (n:Int))).run Tryz.prog w =
 .ok (.slice (some ⟨w.heap.size,0,none⟩) n n) (w.alloc (.cells (madeCells #[.bool false] n) 4)):=by
 obtain ⟨i0,hi0,hz0,hz1,hz2⟩:=info_parts Tryz.infoBool
 have h:=run_make (P:=Tryz.prog) w 287 4 i0 (.bool false) Tryz.underlying287 hi0 hz0 .i64 .i64 n n (by omega) (by omega) (by rw [hz2];omega) (by omega)
 simpa [hz1,Value.cells] using h
def Bs (W:World) (q n:Nat) (f:Nat→Bool):Prop:=At W q ((List.range n).map fun i=>.bool (f i))
theorem made_bools (w:World) (n:Nat):Bs (w.alloc (.cells (madeCells #[.bool false] n) 4)) w.heap.size n (fun _=>false):=by
 have e:madeCells #[.bool false] n=((List.range n).map fun _=>Value.bool false).toArray:=by
  apply Array.ext
  ·simp [size_madeCells]
  ·intro i h1 h2
   simp [madeCells,Nat.mod_one]
 rw [e]
 exact at_new0 _ _ _
section
variable {W W':World} {q n i:Nat} {f:Nat→Bool}
theorem Bs.get (h:Bs W q n f) (hi:i < n):W.cell? ⟨q,i,none⟩=some (.bool (f i)):=At.ci h (by rw [List.getElem?_map,List.getElem?_range hi];rfl)
theorem Bs.fz (h:Bs W q n f) (hi:i < n):W.frozen? ⟨q,i,none⟩=false:=At.fi (v:=.bool (f i)) h (by rw [List.getElem?_map,List.getElem?_range hi];rfl)
theorem Bs.set (h:Bs W q n f) (hi:i < n):Bs (W.setCell ⟨q,i,none⟩ (.bool true)) q n (fun j=>f j || (i == j)):=by
 have h1:=At.put h (i:=i) (by simpa using hi) (.bool true)
 unfold Bs
 have e:((List.range n).map fun i=>Value.bool (f i)).set i (.bool true)=(List.range n).map fun j=>Value.bool (f j || (i == j)):=by
  apply List.ext_getElem?
  intro k
  by_cases hk:i=k
  ·subst hk
   rw [List.getElem?_set_self (by simpa using hi),List.getElem?_map,List.getElem?_range hi];simp
  ·rw [List.getElem?_set_ne hk,List.getElem?_map,List.getElem?_map]
   cases hg:(List.range n)[k]? with
   | none=>rfl
   | some x =>
     have hx:x=k:=by
      have:=List.getElem?_eq_some_iff.1 hg
      obtain ⟨h2,h3⟩:=this
      rw [List.getElem_range] at h3;exact h3.symm
     subst hx
     have:(i == x)=false:=beq_eq_false_iff_ne.2 hk
     simp [this]
 rw [← e];exact h1
theorem Bs.congr {g:Nat→Bool} (h:Bs W q n f) (e:∀ i,i < n→f i=g i):Bs W q n g:=by
 have e2:((List.range n).map fun i=>Value.bool (f i))=(List.range n).map fun i=>Value.bool (g i):=by
  apply List.map_congr_left
  intro i hi
  rw [e i (List.mem_range.1 hi)]
 unfold Bs at h ⊢
 rw [← e2];exact h
end
def sizeP (names ps:List ByteArray) (u:ByteArray):Nat × Bool:=if hasB names u then (0,true) else (lpB names u ps,decide (0 < lpB names u ps))
def RetIB (W:World) (a:Int) (b:Bool) (e:Ending) (w':World):Prop:=e = .returned (.tuple #[.int .i64 a,.bool b])∧Bel W w'
theorem prefixSize_any {A B:Option Addr} {n c m d:Nat} {names ps:List ByteArray} {u:ByteArray} {w:World} (h:Ss w A names) (hn:n=names.length) (hl:n≤1000000) (h':Ss w B ps) (hm:m=ps.length) (hl':m≤1000000) (hu:u.size≤140737488355328) :
 Calls Tryz.prog 193 #[.agg #[.slice A n c,.slice B m d],.string u] w (RetIB w ((sizeP names ps u).1:Int) (sizeP names ps u).2):=by
 have CS:Hid (∀ (x:ByteArray) (W:World),Calls Tryz.prog 220 #[.string u,.string x] W fun e w'=>e = .returned (.bool (Lib.hasSuffix u.data.toList x.data.toList))∧W=w'):=fun x W=>(Tryz.strings_HasSuffix u x W (by omega)).mono fun e w' ⟨h1,h3⟩=>⟨h1,h3.symm⟩
 have CP:Hid (∀ (x:ByteArray) (W:World),Calls Tryz.prog 94 #[.string u,.string x] W fun e w'=>e = .returned (.bool (Lib.hasPrefix u.data.toList x.data.toList))∧W=w'):=fun x W=>(Tryz.strings_HasPrefix u x W).mono fun e w' ⟨h1,h3⟩=>⟨h1,h3.symm⟩
 have HN:=khide hn
 have HM:=khide hm
 have hmk:∀ W:World,(Instr.makeSlice 287 (.int .i64 ((u.size:Int) + 1)) (.int .i64 ((u.size:Int) + 1))).run Tryz.prog W = .ok (.slice (some ⟨W.heap.size,0,none⟩) (u.size + 1) (u.size + 1)) (W.alloc (.cells (madeCells #[.bool false] (u.size + 1)) 4)):=fun W=>make_bools (u.size + 1) (by omega) W
 clear hn hm
 obtain ⟨W1,hW1⟩:∃ X,X=(w.alloc (.cells #[.slice A n c,.slice B m d] 62)).alloc (.cells (madeCells #[.bool false] (u.size + 1)) 4):=⟨_,rfl⟩
 have HA:At W1 w.heap.size [.slice A n c,.slice B m d]:=by rw [hW1];exact (at_new0 _ _ _).al _
 have HB:Bel w W1:=by rw [hW1];exact ((Bel.refl w).al _).al _
 have HE:Bs W1 (w.heap.size + 1) (u.size + 1) (endB (names.take 0) u):=by
  rw [hW1]
  have h2:=made_bools (w.alloc (.cells #[.slice A n c,.slice B m d] 62)) (u.size + 1)
  rw [show (w.alloc (.cells #[.slice A n c,.slice B m d] 62)).heap.size=w.heap.size + 1 by simp] at h2
  exact h2
 have HW:=khide hW1
 clear hW1
 have ha_0:=HA.c0;have ha_1:=HA.c1;have ha_l:=HA.lt
 go_enter Tryz.func193,Tryz.ntmps193
 go_upto_region 2 with fail
 rw [← HW.out]
 obtain ⟨p,hp⟩:∃ p,p=w.heap.size:=⟨_,rfl⟩
 obtain ⟨q,hq⟩:∃ p,p=w.heap.size + 1:=⟨_,rfl⟩
 have HQ:Hid (w.heap.size≤q):=by unfold Hid;omega
 have HPQ:Hid (q ≠ p):=by unfold Hid;omega
 rw [← hp] at HA ha_0 ha_1 ha_l
 rw [← hq] at HE
 rw [← hq,← hp]
 clear HW hmk hp hq
 go_upto_region 3 with fail
 clear ha_0 ha_1 ha_l
 go_loopw [19] (fun iv wr=>∃ k:Nat,k≤n∧iv = .int .i64 (k:Int)∧Hid (Bel w wr)∧Hid (At wr p [.slice A n c,.slice B m d])∧Hid (Bs wr q (u.size + 1) (endB (names.take k) u))) (fun iv _=>n - (intOf iv).toNat)
 case atStart=>exact ⟨0,Nat.zero_le _,rfl,HB,HA,HE⟩
 case round =>
  clear HB HA HE
  obtain ⟨k,hk,rfl,HB,HA,HE⟩:=hrel
  by_cases hlt:k < n
  ·have hx:k < names.length:=by rw [← HN.out];exact hlt
   obtain ⟨ad,rfl,had,hcell⟩:=(h.up HB.out.hid).out.at_ hx
   obtain ⟨x,hxe⟩:∃ x,x=names[k]:=⟨_,rfl⟩
   rw [← hxe] at hcell
   obtain ⟨b,hb⟩:∃ b,Lib.hasSuffix u.data.toList x.data.toList=b:=⟨_,rfl⟩
   have CX:Hid (∀ W:World,Calls Tryz.prog 220 #[.string u,.string x] W fun e w'=>e = .returned (.bool b)∧W=w'):=fun W=>hb ▸ CS.out x W
   have HV:Hid (∀ i,endB (names.take (k + 1)) u i=(endB (names.take k) u i || (b && (u.size - x.size == i)))):=fun i=>by rw [endB_take hx,← hxe,hb]
   cases b with
   | false =>
     have HE2:Hid (Bs wr q (u.size + 1) (endB (names.take (k + 1)) u)):=HE.out.congr (fun i _=>by rw [HV.out i];simp)
     clear hb hxe hx HV
     go_wp2_with (first | (go_at_call 220;(with_reducible refine (CX.out _).mono ?_);rintro e w1 ⟨rfl,rfl⟩) | fail)
     go_roundw
     case rel=>exact ⟨k + 1,by omega,by go_num,HB,HA,HE2⟩
     case measure=>simp [intOf];omega
   | true =>
     have hsz:x.size≤u.size:=((suffix_iff u x).1 hb).1
     obtain ⟨i,hi⟩:∃ i,u.size - x.size=i:=⟨_,rfl⟩
     have e1:(u.size:Int) - (x.size:Int)=(i:Int):=by omega
     have hi2:i < u.size + 1:=by omega
     have hi3:(i:Int) < (u.size:Int) + 1:=by omega
     have e0:=HE.out.get hi2
     have e0f:=HE.out.fz hi2
     have e0l:=HE.out.lt
     have HE2:Hid (Bs (wr.setCell ⟨q,i,none⟩ (.bool true)) q (u.size + 1) (endB (names.take (k + 1)) u)):=(HE.out.set hi2).congr (fun j _=>by rw [HV.out j,hi];rfl)
     have HA2:=khide (HA.out.far (i:=i) HPQ.out (.bool true))
     have HB2:Hid (Bel w (wr.setCell ⟨q,i,none⟩ (.bool true))):=Below.setCell HB.out HQ.out _
     clear hb hxe hx HV hi hsz
     go_wp2_with (first | (go_at_call 220;(with_reducible refine (CX.out _).mono ?_);rintro e w1 ⟨rfl,rfl⟩) | fail)
     go_roundw
     case rel=>exact ⟨k + 1,by omega,by go_num,HB2,HA2,HE2⟩
     case measure=>simp [intOf];omega
  ·obtain rfl:k=n:=by omega
   have HE2:Hid (Bs wr q (u.size + 1) (endB names u)):=by
    have h3:=HE.out
    rwa [List.take_of_length_le (by rw [← HN.out];exact Nat.le_refl _)] at h3
   clear HE hlt hk
   have e0:=HE2.out.get (i:=0) (by omega)
   have el:=HE2.out.lt
   obtain ⟨b,hb⟩:∃ b,endB names u 0=b:=⟨_,rfl⟩
   rw [hb] at e0
   have HH:Hid (hasB names u=b):=by
    unfold Hid;rw [← hb,endB_mem (Nat.zero_le _),restB_zero]
   clear hb
   have ha_0:=HA.out.c0;have ha_1:=HA.out.c1;have ha_l:=HA.out.lt
   cases b with
   | true =>
     go_wp2
     go_ret2
     refine ⟨?_,HB.out⟩
     unfold sizeP
     rw [HH.out];rfl
   | false =>
     go_wp2_with fail
     go_loop [9,40] (fun lv iv=>∃ k:Nat,k≤m∧iv = .int .i64 (k:Int)∧lv = .int .i64 ((lpB names u (ps.take k):Nat):Int)) (fun _ iv=>m - (intOf iv).toNat)
     case atStart=>exact ⟨0,Nat.zero_le _,rfl,rfl⟩
     case round =>
      obtain ⟨k,hk,rfl,rfl⟩:=hrel
      by_cases hlt:k < m
      ·have hx:k < ps.length:=by rw [← HM.out];exact hlt
       obtain ⟨bd,rfl,hbd,hcell⟩:=(h'.up HB.out.hid).out.at_ hx
       obtain ⟨x,hxe⟩:∃ x,x=ps[k]:=⟨_,rfl⟩
       rw [← hxe] at hcell
       obtain ⟨b,hb⟩:∃ b,Lib.hasPrefix u.data.toList x.data.toList=b:=⟨_,rfl⟩
       obtain ⟨e,he⟩:∃ e,hasB names (restB u x.size)=e:=⟨_,rfl⟩
       have CX:Hid (∀ W:World,Calls Tryz.prog 94 #[.string u,.string x] W fun e w'=>e = .returned (.bool b)∧W=w'):=fun W=>hb ▸ CP.out x W
       obtain ⟨L,hL⟩:∃ L,lpB names u (ps.take k)=L:=⟨_,rfl⟩
       have HV:Hid (lpB names u (ps.take (k + 1))=if (b && e) then max L x.size else L):=by
        unfold Hid;rw [lpB_take hx,← hxe,hL];unfold hitB;rw [hb,he]
       have HLu:Hid (L≤u.size):=by unfold Hid;rw [← hL];exact lpB_le ps k (by omega)
       rw [hL]
       cases b with
       | false =>
         have HV2:Hid (lpB names u (ps.take (k + 1))=L):=HV.out
         clear hb he hL hxe hx HV
         go_wp2_with (first | (go_at_call 94;(with_reducible refine (CX.out _).mono ?_);rintro e w1 ⟨rfl,rfl⟩) | fail)
         go_round
         case rel=>exact ⟨k + 1,by omega,by go_num,by rw [HV2.out]⟩
         case measure=>simp [intOf];omega
       | true =>
         have hsz:x.size≤u.size:=by
          have h1:x.data.toList <+: u.data.toList:=List.isPrefixOf_iff_prefix.1 hb
          rw [Lib.size_eq,Lib.size_eq];exact h1.length_le
         have e1:=HE2.out.get (i:=x.size) (by omega)
         rw [endB_mem hsz,he] at e1
         have hi3:(x.size:Int) < (u.size:Int) + 1:=by omega
         cases e with
         | false =>
           have HV2:Hid (lpB names u (ps.take (k + 1))=L):=HV.out
           clear hb he hL hxe hx HV
           go_wp2_with (first | (go_at_call 94;(with_reducible refine (CX.out _).mono ?_);rintro e w1 ⟨rfl,rfl⟩) | fail)
           go_round
           case rel=>exact ⟨k + 1,by omega,by go_num,by rw [HV2.out]⟩
           case measure=>simp [intOf];omega
         | true =>
           have HV2:Hid (lpB names u (ps.take (k + 1))=max L x.size):=HV.out
           clear hb he hL hxe hx HV
           go_wp2_with (first | (go_at_call 94;(with_reducible refine (CX.out _).mono ?_);rintro e w1 ⟨rfl,rfl⟩) | fail)
           go_round
           case rel=>exact ⟨k + 1,by omega,by go_num,by rw [HV2.out,show max (L:Int) (x.size:Int)=((max L x.size:Nat):Int) by omega]⟩
           case measure=>simp [intOf];omega
      ·obtain rfl:k=m:=by omega
       obtain ⟨L,hL⟩:∃ L,lpB names u ps=L:=⟨_,rfl⟩
       have e2:ps.take k=ps:=List.take_of_length_le (by rw [← HM.out];exact Nat.le_refl _)
       rw [e2,hL]
       have HLL:=khide hL
       clear e2 hL
       by_cases h0:0 < L
       ·have d0:decide ((0:Int) < (L:Int))=true:=decide_eq_true (by omega)
        have HD:Hid (decide (0 < L)=true):=decide_eq_true h0
        clear h0
        go_wp2
        go_ret2
        refine ⟨?_,HB.out⟩
        unfold sizeP
        rw [HH.out,HLL.out]
        simp only [Bool.false_eq_true,if_false]
        rw [HD.out];try rfl
       ·have d0:decide ((0:Int) < (L:Int))=false:=decide_eq_false (by omega)
        have HD:Hid (decide (0 < L)=false):=decide_eq_false h0
        clear h0
        go_wp2
        go_ret2
        refine ⟨?_,HB.out⟩
        unfold sizeP
        rw [HH.out,HLL.out]
        simp only [Bool.false_eq_true,if_false]
        rw [HD.out];try rfl
def eB:ByteArray:=⟨#[]⟩
structure PA where
 p:ByteArray
 n:ByteArray
 k:Nat
 t:Nat
 ok:Bool
def noPA:PA:=⟨eB,eB,0,0,false⟩
def parseU (names ps:List ByteArray) (k t:Nat) (u:ByteArray):PA:=if (sizeP names ps u).2 then ⟨u.extract 0 (sizeP names ps u).1,restB u (sizeP names ps u).1,k,t + 1,true⟩ else noPA
def parseA (names ps l:List ByteArray):PA :=
 match l[(leadP l).2]? with
 | none=>noPA
 | some u=>parseU names ps (leadP l).1 (leadP l).2 u
theorem leadP_le (l:List ByteArray):(leadP l).2≤l.length∧(leadP l).2≤1:=by
 cases l with
 | nil=>exact ⟨Nat.le_refl _,by decide⟩
 | cons s l =>
   by_cases h:powOf s=0
   ·have e:leadP (s :: l)=(1,0):=if_pos h
    rw [e];simp
   ·have e:leadP (s :: l)=(powOf s,1):=if_neg h
    rw [e];simp
theorem sizeP_le (names ps:List ByteArray) (u:ByteArray):(sizeP names ps u).1≤u.size:=by
 unfold sizeP
 split
 ·simp
 ·have:=lpB_le (names:=names) (u:=u) ps ps.length (Nat.le_refl _)
  rwa [List.take_length] at this
def PRes (W:World) (a:PA) (e:Ending) (w':World):Prop:=e = .returned (.tuple #[.agg #[.string a.p,.string a.n,.int .i64 (a.k:Int)],.int .i64 (a.t:Int),.bool a.ok])∧Bel W w'
theorem kbelow3 {W w2:World} {p:Nat} (h:Bel W w2) (hp:W.heap.size≤p) (x y z:Value):Bel W (((w2.setCell ⟨p,0,none⟩ x).setCell ⟨p,1,none⟩ y).setCell ⟨p,2,none⟩ z) :=
 ((Below.setCell h hp _).setCell hp _).setCell hp _
theorem parse_any {A B D:Option Addr} {n c m d j g:Nat} {names ps l:List ByteArray} {w:World} (h:Ss w A names) (hn:n=names.length) (hl:n≤1000000) (h':Ss w B ps) (hm:m=ps.length) (hl':m≤1000000) (h2:Ss w D l) (hj:j=l.length) (hu:∀ x ∈ l,x.size≤140737488355328) :
 Calls Tryz.prog 140 #[.agg #[.slice A n c,.slice B m d],.slice D j g] w (PRes w (parseA names ps l)):=by
 obtain ⟨pw,hpw⟩:∃ x,(leadP l).1=x:=⟨_,rfl⟩
 obtain ⟨tk,htk⟩:∃ x,(leadP l).2=x:=⟨_,rfl⟩
 have CL:Hid (∀ W,Bel w W→Calls Tryz.prog 192 #[.slice D j g] W (RetII W (pw:Int) (tk:Int))):=fun W hb=>by rw [← hpw,← htk];exact lead_any (h2.up hb.hid) hj
 have hle:=leadP_le l
 rw [htk] at hle
 have HV:Hid (parseA names ps l=match l[tk]? with | none=>noPA | some u=>parseU names ps pw tk u):=by unfold Hid parseA;rw [hpw,htk]
 obtain ⟨W1,hW1⟩:∃ X,X=(w.alloc (.cells #[.slice A n c,.slice B m d] 62)).alloc (.cells #[.string ⟨#[]⟩,.string ⟨#[]⟩,.int .i64 0] 96):=⟨_,rfl⟩
 have HA:At W1 w.heap.size [.slice A n c,.slice B m d]:=by rw [hW1];exact (at_new0 _ _ _).al _
 have HR:At W1 (w.heap.size + 1) [.string ⟨#[]⟩,.string ⟨#[]⟩,.int .i64 0]:=by rw [hW1];exact at_new1 _ _ _ _
 have HB:Bel w W1:=by rw [hW1];exact ((Bel.refl w).al _).al _
 have HW:=khide hW1
 have HN:=khide hn
 have HM:=khide hm
 have HJ:=khide hj
 clear hW1 hpw htk hn hm
 go_enter Tryz.func140,Tryz.ntmps140
 go_upto_region 1 with fail
 rw [← HW.out]
 obtain ⟨p,hp⟩:∃ p,p=w.heap.size:=⟨_,rfl⟩
 obtain ⟨q,hq⟩:∃ p,p=w.heap.size + 1:=⟨_,rfl⟩
 have HQ:Hid (w.heap.size≤q):=by unfold Hid;omega
 rw [← hp] at HA
 rw [← hq] at HR
 rw [← hq,← hp]
 clear HW hp hq
 by_cases he:tk=j
 ·have d1:((tk:Int) == (j:Int))=true:=by rw [beq_iff_eq];omega
  have HV2:Hid (parseA names ps l=noPA):=by unfold Hid;rw [HV.out,List.getElem?_eq_none (by omega)]
  have HE:=khide he
  clear he hle hu HV hj
  go_upto_region 2 with (first | (go_at_call 192;(with_reducible refine (CL.out _ HB).mono ?_);rintro e w1 ⟨rfl,hb⟩;(replace HA:=HA.up hb.hid);(replace HR:=HR.up hb.hid);(replace HB:=HB.up hb.hid);clear hb) | fail)
  have hr_0:=HR.c0;have hr_1:=HR.c1;have hr_2:=HR.c2;have hr_l:=HR.lt;have hr_f0:=HR.f0;have hr_f1:=HR.f1;have hr_f2:=HR.f2
  go_wp2_with fail
  refine bodyPost_ret (v:=.tuple #[.agg #[.string ⟨#[]⟩,.string ⟨#[]⟩,.int .i64 0],.int .i64 0,.bool false]) (by simp [results,Tryz.results140,go_sem,hr_0,hr_1,hr_2]) rfl ⟨?_,?_⟩
  ·rw [HV2.out];rfl
  ·exact kbelow3 HB HQ.out _ _ _
 ·have d1:((tk:Int) == (j:Int))=false:=by rw [beq_eq_false_iff_ne];omega
  have hk:tk < l.length:=by omega
  obtain ⟨u,hu2⟩:∃ u,u=l[tk]:=⟨_,rfl⟩
  have huz:Hid (u.size≤140737488355328):=hu u (by rw [hu2];exact List.getElem_mem hk)
  obtain ⟨sz,hsz⟩:∃ x,(sizeP names ps u).1=x:=⟨_,rfl⟩
  obtain ⟨ok,hok⟩:∃ x,(sizeP names ps u).2=x:=⟨_,rfl⟩
  have CP:Hid (∀ W,Bel w W→Calls Tryz.prog 193 #[.agg #[.slice A n c,.slice B m d],.string u] W (RetIB W (sz:Int) ok)):=fun W hb=>by rw [← hsz,← hok];exact prefixSize_any (h.up hb.hid) HN.out hl (h'.up hb.hid) HM.out hl' huz.out
  have hle2:sz≤u.size:=by rw [← hsz];exact sizeP_le names ps u
  have HV2:Hid (parseA names ps l=if ok then ⟨u.extract 0 sz,restB u sz,pw,tk + 1,true⟩ else noPA):=by
   unfold Hid
   rw [HV.out,List.getElem?_eq_getElem hk,← hu2]
   show parseU names ps pw tk u=_
   unfold parseU;rw [hsz,hok]
  obtain ⟨ad,rfl,had,hcell⟩:=h2.out.at_ hk
  rw [← hu2] at hcell
  have t1:(tk:Int) < (j:Int):=by omega
  have t2:(0:Int)≤(tk:Int):=by omega
  have HT1:Hid (tk≤1):=hle.2
  have s1:(sz:Int)≤(u.size:Int):=by omega
  have s2:(0:Int)≤(sz:Int):=by omega
  have hC:Hid (∀ W',Bel w W'→W'.cell? (ad.add tk)=some (.string u)):=fun W' hb=>(hb.cell (by rw [yblock_add];exact had)).trans hcell
  clear hcell had hu2 hu hle HV hj he hk hsz hok
  go_upto_region 4 with (first | (go_at_call 192;(with_reducible refine (CL.out _ HB).mono ?_);rintro e w1 ⟨rfl,hb⟩;(replace HA:=HA.up hb.hid);(replace HR:=HR.up hb.hid);(replace HB:=HB.up hb.hid);clear hb) | fail)
  have hcell:=hC.out _ HB
  have ha_0:=HA.c0;have ha_1:=HA.c1;have ha_l:=HA.lt
  cases ok with
  | false =>
    go_upto_region 7 with (first | (go_at_call 193;(with_reducible refine (CP.out _ HB).mono ?_);rintro e w2 ⟨rfl,hb⟩;(replace HA:=HA.up hb.hid);(replace HR:=HR.up hb.hid);(replace HB:=HB.up hb.hid);clear hb hcell ha_0 ha_1 ha_l) | fail)
    have hr_0:=HR.c0;have hr_1:=HR.c1;have hr_2:=HR.c2;have hr_l:=HR.lt;have hr_f0:=HR.f0;have hr_f1:=HR.f1;have hr_f2:=HR.f2
    go_wp2_with fail
    refine bodyPost_ret (v:=.tuple #[.agg #[.string ⟨#[]⟩,.string ⟨#[]⟩,.int .i64 0],.int .i64 0,.bool false]) (by simp [results,Tryz.results140,go_sem,hr_0,hr_1,hr_2]) rfl ⟨?_,kbelow3 HB HQ.out _ _ _⟩
    rw [HV2.out];rfl
  | true =>
    go_upto_region 8 with (first | (go_at_call 193;(with_reducible refine (CP.out _ HB).mono ?_);rintro e w2 ⟨rfl,hb⟩;(replace HA:=HA.up hb.hid);(replace HR:=HR.up hb.hid);(replace HB:=HB.up hb.hid);clear hb hcell ha_0 ha_1 ha_l) | fail)
    have hr_0:=HR.c0;have hr_1:=HR.c1;have hr_2:=HR.c2;have hr_l:=HR.lt;have hr_f0:=HR.f0;have hr_f1:=HR.f1;have hr_f2:=HR.f2
    go_region
    all_goals go_wp2_with fail
    have e9:wrap64 ((tk:Int) + 1)=(tk:Int) + 1:=by have:=HT1.out;unfold wrap64;omega
    all_goals refine bodyPost_ret (v:=.tuple #[.agg #[.string (u.extract 0 sz),.string (u.extract sz u.size),.int .i64 (pw:Int)],.int .i64 ((tk:Int) + 1),.bool true]) (by simp [results,Tryz.results140,go_sem,hr_0,hr_1,hr_2,e9]) rfl ⟨?_,(kbelow3 HB HQ.out _ _ _).dr⟩
    all_goals (rw [HV2.out];rfl)
def joinS (xs:List ByteArray):ByteArray:=⟨(glue 45 (xs.map (·.data.toList))).toArray⟩
def StrR (W:World) (s:ByteArray) (e:Ending) (w':World):Prop:=e = .returned (.string s)∧Hid (Below W.heap.size W w')
theorem plain_of {w:World} {ad:Addr} {v:Value} (h:w.cell? ad=some v):∃ b o,ad=⟨b,o,none⟩:=by
 obtain ⟨b,o,sp⟩:=ad
 cases sp with
 | none=>exact ⟨b,o,rfl⟩
 | some k =>
   unfold World.cell? at h
   split at h
   ·simp at h
   ·cases h
theorem sjoin_any {w:World} {A:Option Addr} {n c:Nat} {xs:List ByteArray} (h:Ss w A xs) (hn:n=xs.length) (hc:n≤c) (hN:n≤1000000) (hl:(glue 45 (xs.map (·.data.toList))).length≤140737488355328) :
 Calls Tryz.prog 38 #[.slice A n c,.string ⟨#[45]⟩] w (StrR w (joinS xs)):=by
 subst hn
 cases xs with
 | nil =>
   refine (Tryz.strings_Join_none A c ⟨#[45]⟩ w).mono fun e w' ⟨he,hw⟩=>⟨by rw [he];rfl,by rw [hw];exact Below.refl _ _⟩
 | cons x xs =>
   obtain ⟨ad,rfl,hb,hcell⟩:=h.out (by simp)
   have h0:=hcell 0 x rfl
   obtain ⟨b,o,hbo⟩:=plain_of h0
   rw [show ad.add 0=ad by simp [Addr.add]] at hbo
   subst hbo
   have hcl:∀ (j:Nat) y,(x :: xs)[j]? = some y→w.cell? ⟨b,o + j,none⟩=some (.string y):=fun j y hj=>by
    have h1:=hcell j y hj
    have e:(⟨b,o,none⟩:Addr).add j=⟨b,o + j,none⟩:=by unfold Addr.add;split <;> simp_all
    rwa [e] at h1
   have c1:=Tryz.strings_Join b o c (x :: xs) ⟨#[45]⟩ w hcl hb (by omega) hc (by rw [show (⟨#[45]⟩:ByteArray).data.toList=[45] from rfl,join_glue];exact hl)
   refine c1.mono fun e w' ⟨he,hw⟩=>⟨?_,hw⟩
   rw [he,show (⟨#[45]⟩:ByteArray).data.toList=[45] from rfl,join_glue];rfl
theorem wjoin_any {w:World} {A:Option Addr} {n c:Nat} {xs:List ByteArray} (h:Ss w A xs) (hn:n=xs.length) (hc:n≤c) (hN:n≤1000000) (hl:(glue 45 (xs.map (·.data.toList))).length≤140737488355328) :
 Calls Tryz.prog 31 #[.slice A n c] w (StrR w (joinS xs)):=by
 have CJ:=yhide (sjoin_any h hn hc hN hl)
 clear h hn hc hN hl
 obtain ⟨t,ht⟩:∃ t,t=joinS xs:=⟨_,rfl⟩
 rw [← ht] at CJ ⊢
 clear ht
 go_enter Tryz.func31,Tryz.ntmps31
 go_wp2_with (first | (go_at_call 38;(with_reducible refine CJ.out.mono ?_);rintro e w1 ⟨rfl,hbk⟩) | fail)
 go_ret
 exact ⟨rfl,hbk⟩
end Go.Proofs.YtfflmmbhpchloaaGreatDoor
end
