/- Each theorem here says its own conditions. -/
import Derived.Test.YtfflmmbhpchloaaGreatDoorJc
import Derived.Lib.IndexBytes
import Derived.Shelf.Strings.PiecesUse
set_option maxRecDepth 100000
set_option maxHeartbeats 16000000
section
open Go.RowKit
namespace Go.Proofs.YtfflmmbhpchloaaGreatDoor
theorem atomsL_le {names ps:List ByteArray}:∀ (k:Nat) {l:List ByteArray} {r:List AL},l.length≤k→atomsL names ps l=some r→r.length≤l.length
 | _,[],r,_,h=>by injection h with h;subst h;exact Nat.le_refl _
 | 0,u :: l,r,hk,h=>by simp at hk
 | k + 1,u :: l,r,hk,h=>by
   by_cases e:(parseA names ps (u :: l)).ok=true
   ·have h1:=parseA_t e
    rw [atomsL_more e] at h
    cases hh:atomsL names ps ((u :: l).drop (parseA names ps (u :: l)).t) with
    | none=>rw [hh] at h;cases h
    | some r' =>
      rw [hh] at h
      injection h with h
      have h2:((u :: l).drop (parseA names ps (u :: l)).t).length≤k:=by rw [List.length_drop];simp at hk ⊢;omega
      have ih:=atomsL_le k h2 hh
      rw [List.length_drop] at ih
      rw [← h,List.length_cons]
      omega
   ·rw [atomsL_bad (by simp) (by simpa using e)] at h;cases h
section
variable {A B D:Option Addr} {n c m d j g:Nat} {names ps l:List ByteArray} {w:World}
theorem pAtoms_of (h:Ss w A names) (hn:n=names.length) (hl:n≤1000000) (h':Ss w B ps) (hm:m=ps.length) (hl':m≤1000000) (hjl:l.length≤1000000) (hu:∀ x ∈ l,x.size≤1000):PAtoms w A B n c m d l (atomsL names ps l):=fun W D j g hb hs hj hg =>
 patoms_any (h.up hb.hid) hn hl (h'.up hb.hid) hm hl' hs hj hg (by omega) (fun x hx=>by have:=hu x hx;omega) rfl
theorem PAtoms.up {W:World} {res:Option (List AL)} (h:PAtoms w A B n c m d l res) (hb:Bel w W):PAtoms W A B n c m d l res:=fun W' D j g hb' hs hj hg=>h W' D j g (hb.up hb'.hid) hs hj hg
theorem pden_any (h:Ss w A names) (hn:n=names.length) (hl:n≤1000000) (h':Ss w B ps) (hm:m=ps.length) (hl':m≤1000000) (hne:l ≠ []) (hjl:l.length≤1000000) (hu:∀ x ∈ l,x.size≤1000) :
 PDen w A B n c m d l (atomsL names ps (headD l).2) (nuOf (headD l).1):=fun W D j g hb hs hj hg=>by
 cases l with
 | nil=>exact absurd rfl hne
 | cons x l =>
   obtain ⟨ad,rfl,_⟩:=hs.out (by simp)
   have hx:=hu x (by simp)
   have hl1:l.length≤1000000:=by simp at hjl;omega
   have hj2:j=l.length + 1:=by rw [hj];rfl
   have hj3:j≤1000000:=by rw [hj];exact hjl
   by_cases h1:numW x.data.toList=true
   ·by_cases h2:x=oneB
    ·have e:headD (x :: l)=(oneB,x :: l):=if_neg (fun k=>k.2 h2)
     rw [e,nuOf_one]
     have CP:PAtoms W A B n c m d (x :: l) (atomsL names ps (x :: l)):=(pAtoms_of h hn hl h' hm hl' hjl hu).up hb
     exact pden_one hs hj2 hg hj3 hx h1 h2 CP
    ·have e:headD (x :: l)=(x,l):=if_pos ⟨h1,h2⟩
     rw [e]
     have CP:PAtoms W A B n c m d l (atomsL names ps l):=(pAtoms_of h hn hl h' hm hl' hl1 (fun y hy=>hu y (List.mem_cons_of_mem _ hy))).up hb
     exact pden_num hs hj2 hg hj3 hx h1 h2 CP
   ·have e:headD (x :: l)=(oneB,x :: l):=if_neg (fun k=>h1 k.1)
    rw [e,nuOf_one]
    have CP:PAtoms W A B n c m d (x :: l) (atomsL names ps (x :: l)):=(pAtoms_of h hn hl h' hm hl' hjl hu).up hb
    exact pden_no hs hj2 hg hj3 hx (by simpa using h1) CP
theorem ppart_any (h:Ss w A names) (hn:n=names.length) (hl:n≤1000000) (h':Ss w B ps) (hm:m=ps.length) (hl':m≤1000000) (h2:Ss w D l) (hj:j=l.length) (hjl:j≤1000000) (hu:∀ x ∈ l,x.size≤1000) :
 Calls Tryz.prog 58 #[.agg #[.slice A n c,.slice B m d],.slice D j g] w (PartP w (partD names ps l)):=by
 have hmem:∀ p ∈ cutBy perB l,∀ x ∈ p,x.size≤1000:=fun p hp x hx=>hu x (cutBy_mem l p hp x hx)
 have hlen:∀ p ∈ cutBy perB l,p.length≤1000000:=fun p hp=>by have:=cutBy_piece hp;omega
 unfold partD
 match hc:cutBy perB l with
 | []=>exact absurd hc (cutBy_ne l)
 | [a] =>
   rw [hc] at hmem hlen
   have ha:=hmem a (by simp)
   have hal:=hlen a (by simp)
   by_cases h0:a=[]
   ·subst h0
    exact ppart_last1 h2 hj hjl hc
   ·rw [partC_sole]
    have CP:=pAtoms_of (n:=n) (c:=c) (m:=m) (d:=d) h hn hl h' hm hl' hal ha
    cases hr:atomsL names ps a with
    | none=>exact ppart_one (res1:=none) (fun _ h=>by cases h) h0 (hr ▸ CP) h2 hj hjl hc
    | some r =>
      have h3:=atomsL_pos hr h0
      have h4:=atomsL_le _ (Nat.le_refl _) hr
      show Calls _ _ _ _ (PartP w (if 0 < r.length∧r.length≤8 then some (r,[],oneB) else none))
      have h9:Calls _ _ _ _ (PartP w (if r.length≤8 then some (r,[],oneB) else none)):=ppart_one (g:=g) (res1:=some r) (fun _ h=>by injection h with h;subst h;omega) h0 (hr ▸ CP) h2 hj hjl hc
      by_cases h5:r.length≤8
      ·rw [if_pos h5] at h9;rw [if_pos ⟨h3,h5⟩];exact h9
      ·rw [if_neg h5] at h9;rw [if_neg (fun k=>h5 k.2)];exact h9
 | [a,b] =>
   rw [hc] at hmem hlen
   have ha:=hmem a (by simp)
   have hal:=hlen a (by simp)
   have hb:=hmem b (by simp)
   have hbl:=hlen b (by simp)
   rw [partC_two]
   by_cases h0:b=[]
   ·subst h0
    rw [if_pos rfl]
    exact ppart_last2 h2 hj hjl hc
   ·rw [if_neg h0]
    have CP:=pAtoms_of (n:=n) (c:=c) (m:=m) (d:=d) h hn hl h' hm hl' hal ha
    have CD:=pden_any (n:=n) (c:=c) (m:=m) (d:=d) h hn hl h' hm hl' h0 hbl hb
    have h7:(headD b).2.length≤b.length:=by
     unfold headD
     split
     ·exact Nat.le_refl _
     ·split
      ·simp
      ·exact Nat.le_refl _
    cases hr:atomsL names ps a with
    | none=>exact ppart_two (res1:=none) (fun _ h=>by cases h) (res2:=atomsL names ps (headD b).2) (fun r h=>by have:=atomsL_le _ (Nat.le_refl _) h;omega) CD rfl h0 (hr ▸ CP) h2 hj hjl hc
    | some r =>
      have h4:=atomsL_le _ (Nat.le_refl _) hr
      have h9:=ppart_two (g:=g) (res1:=some r) (fun _ h=>by injection h with h;subst h;omega) (res2:=atomsL names ps (headD b).2) (fun r h=>by have:=atomsL_le _ (Nat.le_refl _) h;omega) CD rfl h0 (hr ▸ CP) h2 hj hjl hc
      cases hs:atomsL names ps (headD b).2 with
      | none=>rw [hs] at h9;exact h9
      | some s=>rw [hs] at h9;exact h9
 | a :: b :: x :: css=>exact ppart_many h2 hj hjl hc (by simp)
end
def pcs (s:ByteArray):List ByteArray:=Lib.splitB ⟨#[45]⟩ 0 (Lib.countB s ⟨#[45]⟩) s
theorem pcs_parts (s:ByteArray):(pcs s).map (·.data.toList)=parts s.data.toList:=by
 unfold pcs
 rw [Lib.splitB_data]
 exact split_cut 45 s.data.toList
theorem pcs_len (s:ByteArray):(pcs s).length=Lib.countB s ⟨#[45]⟩ + 1:=Lib.splitB_all ⟨#[45]⟩ (by decide) 0 _ s rfl
theorem pcs_le (s:ByteArray):(pcs s).length≤s.size + 1:=by
 rw [pcs_len]
 have:=Lib.countB_le ⟨#[45]⟩ (by decide) s.size s (Nat.le_refl _)
 omega
def PiecesR (w:World) (s:ByteArray) (e:Ending) (w':World):Prop :=
 e = .returned (.slice (some ⟨w.heap.size,0,none⟩) (pcs s).length (pcs s).length)∧w'=w.alloc (.cells ((pcs s).map Value.string).toArray 9)
theorem gensplit_any (s:ByteArray) (w:World) (hs:s.size≤1000000):Calls Tryz.prog 92 #[.string s,.string ⟨#[45]⟩,.int .i64 0,.int .i64 (-1)] w (PiecesR w s):=by
 have hle:=Lib.countB_le ⟨#[45]⟩ (by decide) s.size s (Nat.le_refl _)
 have hlen:=pcs_len s
 unfold pcs at hlen
 have c:=Any.strings_genSplit_core Tryz.lays221 (by kernel_rfl) s ⟨#[45]⟩ 0 (-1) (Lib.countB s ⟨#[45]⟩ + 1) w (by omega) (by decide) (Nat.zero_le _)
  (fun x cs hx=>(Tryz.strings_Index_one x 45 _).mono fun e w' ⟨he,hw⟩=>⟨by rw [he,← Lib.index_one],hw⟩)
  ((Tryz.strings_Count_one s 45 w).mono fun e w' ⟨he,hw⟩=>⟨by rw [he,show Lib.countB s ⟨#[45]⟩=Lib.countByte s.data.toList 45 from Lib.count_one 45 s.data.toList],hw⟩)
  (by decide) (by decide) (by rw [if_pos (by decide)];omega)
 rw [Nat.add_sub_cancel,hlen] at c
 have e2:Lib.cellsOf (Lib.splitB ⟨#[45]⟩ 0 (Lib.countB s ⟨#[45]⟩) s) (Lib.countB s ⟨#[45]⟩ + 1)=((Lib.splitB ⟨#[45]⟩ 0 (Lib.countB s ⟨#[45]⟩) s).map Value.string).toArray:=by rw [← hlen];exact Lib.cellsOf_full _
 rw [e2] at c
 refine c.mono fun e w' ⟨he,hw⟩=>⟨?_,?_⟩
 ·rw [he,pcs_len]
 ·rw [hw];rfl
def StrsR (W:World) (xs:List ByteArray) (e:Ending) (w':World):Prop:=∃ ad c,e = .returned (.slice (some ad) xs.length c)∧xs.length≤c∧Ss w' (some ad) xs∧Hid (Below W.heap.size W w')
theorem pieces_ss (w:World) (xs:List ByteArray) (t:TypeId):Ss (w.alloc (.cells (xs.map Value.string).toArray t)) (some ⟨w.heap.size,0,none⟩) xs:=fun _=>by
 refine ⟨_,rfl,by simp,fun j x hx=>?_⟩
 have h:=Lib.pieces_cell_at w xs t j x hx
 have e:(⟨w.heap.size,0,none⟩:Addr).add j=⟨w.heap.size,j,none⟩:=by unfold Addr.add;split <;> simp_all
 rw [e];exact h
theorem ssplit_any (s:ByteArray) (w:World) (hs:s.size≤1000000):Calls Tryz.prog 53 #[.string s,.string ⟨#[45]⟩] w (StrsR w (pcs s)):=by
 have CG:=yhide (fun W=>gensplit_any s W hs)
 clear hs
 have HR:Hid (∀ o:List ByteArray,o=pcs s→StrsR w o (.returned (.slice (some ⟨w.heap.size,0,none⟩) o.length o.length)) (w.alloc (.cells (o.map Value.string).toArray 9))) :=
  fun o _=>⟨_,_,rfl,Nat.le_refl _,pieces_ss _ _ _,(Below.refl _ _).alloc (Nat.le_refl _) _⟩
 obtain ⟨xs,hx⟩:∃ xs,xs=pcs s:=⟨_,rfl⟩
 have CH:Hid (∀ W,Calls Tryz.prog 92 #[.string s,.string ⟨#[45]⟩,.int .i64 0,.int .i64 (-1)] W fun e w'=>e = .returned (.slice (some ⟨W.heap.size,0,none⟩) xs.length xs.length)∧w'=W.alloc (.cells (xs.map Value.string).toArray 9)):=fun W=>by
  rw [hx];exact CG.out W
 have HX:=yhide (HR.out xs hx)
 rw [← hx]
 clear CG HR hx
 go_enter Tryz.func53,Tryz.ntmps53
 go_wp2_with (first | (go_at_call 92;(with_reducible refine (CH.out _).mono ?_);rintro e w1 ⟨rfl,hw1⟩;rw [hw1]) | fail)
 go_ret
 exact HX.out
def SplitNo (W:World) (v:Int) (e:Ending) (w':World):Prop:=e = .returned (.tuple #[.slice none 0 0,.int .i64 v])∧Hid (Below W.heap.size W w')
def SplitOk (W:World) (xs:List ByteArray) (e:Ending) (w':World):Prop:=∃ ad c,e = .returned (.tuple #[.slice (some ad) xs.length c,.int .i64 0])∧xs.length≤c∧Ss w' (some ad) xs∧Hid (Below W.heap.size W w')
theorem wsplit_long {s:ByteArray} (hs:256 < s.size) (w:World):Calls Tryz.prog 28 #[.string s] w (SplitNo w 11):=by
 have d:decide ((256:Int) < (s.size:Int))=true:=decide_eq_true (by omega)
 clear hs
 go_enter Tryz.func28,Tryz.ntmps28
 go_wp2
 go_ret2
 exact ⟨rfl,Below.refl _ _⟩
def goodAll (xs:List ByteArray):Bool:=xs.all (fun x=>goodW x.data.toList)
theorem goodAll_take {xs:List ByteArray} {k:Nat} (h:k < xs.length):goodAll (xs.take (k + 1))=(goodAll (xs.take k) && goodW xs[k].data.toList):=by
 unfold goodAll
 rw [List.take_succ_eq_append_getElem h,List.all_append];simp
theorem goodAll_false {xs:List ByteArray} {k:Nat} (h:k < xs.length) (hp:goodW xs[k].data.toList=false):goodAll xs=false:=by
 unfold goodAll
 rw [List.all_eq_false]
 exact ⟨xs[k],List.getElem_mem h,by rw [hp];simp⟩
theorem wsplit_any {s:ByteArray} (hs:s.size≤256) (w:World):Calls Tryz.prog 28 #[.string s] w (if goodAll (pcs s) then SplitOk w (pcs s) else SplitNo w 2):=by
 have d:decide ((256:Int) < (s.size:Int))=false:=decide_eq_false (by omega)
 have CS:=yhide (fun W=>ssplit_any s W (by omega))
 have HL:=yhide (pcs_le s)
 have HSZ:=yhide hs
 obtain ⟨xs,hx⟩:∃ xs,xs=pcs s:=⟨_,rfl⟩
 rw [← hx] at CS HL ⊢
 obtain ⟨n,hn⟩:∃ n,n=xs.length:=⟨_,rfl⟩
 have hn2:n≤1000000:=by have:=HL.out;omega
 have HN:=yhide hn
 clear hx hn hs
 have HS:Hid (∀ ad c W,xs.length≤c→goodAll xs=true→Ss W (some ad) xs→Hid (Below w.heap.size w W)→(if goodAll xs then SplitOk w xs else SplitNo w 2) (.returned (.tuple #[.slice (some ad) n c,.int .i64 0])) W):=fun ad c W h1 h2 h3 h4=>by
  rw [if_pos h2,HN.out];exact ⟨ad,c,rfl,h1,h3,h4⟩
 have HB:Hid (∀ W,goodAll xs=false→Hid (Below w.heap.size w W)→(if goodAll xs then SplitOk w xs else SplitNo w 2) (.returned (.tuple #[.slice none 0 0,.int .i64 2])) W):=fun W h2 h4=>by
  rw [if_neg (by rw [h2];simp)];exact ⟨rfl,h4⟩
 obtain ⟨Q,hQ⟩:∃ Q,Q=(if goodAll xs then SplitOk w xs else SplitNo w 2):=⟨_,rfl⟩
 rw [← hQ] at HS HB ⊢
 clear hQ
 go_enter Tryz.func28,Tryz.ntmps28
 go_wp2_with (first | (go_at_call 53;(with_reducible refine (CS.out _).mono ?_);rintro e w1 ⟨ad,c,rfl,hc,hss,hbk⟩;rw [← HN.out];have HC:=yhide hc;clear hc) | fail)
 go_loop [14] (fun iv=>∃ k:Nat,k≤n∧iv = .int .i64 (k:Int)∧Hid (goodAll (xs.take k)=true)) (fun iv=>n - (intOf iv).toNat)
 case atStart=>exact ⟨0,Nat.zero_le _,rfl,rfl⟩
 case round =>
  obtain ⟨k,hk,rfl,hall⟩:=hrel
  by_cases hlt:k < n
  ·have hx:k < xs.length:=by rw [← HN.out];exact hlt
   obtain ⟨ad2,e2,hb,hcell⟩:=hss.out.at_ hx
   obtain rfl:ad=ad2:=by injection e2
   obtain ⟨x,hxe⟩:∃ x,x=xs[k]:=⟨_,rfl⟩
   obtain ⟨b,hbe⟩:∃ b,b=goodW x.data.toList:=⟨_,rfl⟩
   have HG1:Hid (goodAll (xs.take (k + 1))=(goodAll (xs.take k) && b)):=by rw [hbe,hxe];exact goodAll_take hx
   have HG2:Hid (b=false→goodAll xs=false):=fun h=>goodAll_false hx (by rw [← hxe,← hbe,h])
   rw [← hxe] at hcell
   have CG:Hid (∀ W,Calls Tryz.prog 56 #[.string x] W fun e w'=>e = .returned (.bool b)∧W=w'):=fun W=>by rw [hbe];exact wgood_any x W
   clear hxe hbe hx e2
   cases b
   ·go_wp2_with (first | (go_at_call 56;(with_reducible refine (CG.out _).mono ?_);rintro e w2 ⟨rfl,rfl⟩) | fail)
    exact HB.out _ (HG2.out (by first | rfl | trivial)) hbk
   ·go_wp2_with (first | (go_at_call 56;(with_reducible refine (CG.out _).mono ?_);rintro e w2 ⟨rfl,rfl⟩) | fail)
    go_round
    case rel=>exact ⟨k + 1,by omega,by go_num,by unfold Hid;rw [HG1.out,hall.out];rfl⟩
    case measure=>simp [intOf];omega
  ·obtain rfl:k=n:=by omega
   have HG:Hid (goodAll xs=true):=by
    have:=hall.out
    rwa [List.take_of_length_le (by rw [← HN.out];exact Nat.le_refl _)] at this
   go_wp2
   exact HS.out _ _ _ HC.out HG.out hss hbk
def partsL (names ps:List ByteArray):List (List ByteArray)→Option (List PL)
 | []=>some []
 | a :: css=>(partD names ps a).bind fun p=>(partsL names ps css).map (p :: ·)
def unitD (names ps:List ByteArray) (s:ByteArray):Except Int (List PL) :=
 if 256 < s.size then .error 11 else if goodAll (pcs s)=false then .error 2 else if 4 < (cutBy andB (pcs s)).length then .error 2 else
  match partsL names ps (cutBy andB (pcs s)) with
  | none=>.error 2
  | some r=>.ok r
def UnitR (W:World) (r:Except Int (List PL)) (e:Ending) (w':World):Prop:=match r with
 | .error v=>e = .returned (.tuple #[.agg #[.slice none 0 0],.int .i64 v])∧Bel W w'
 | .ok ps=>∃ g c,e = .returned (.tuple #[.agg #[.slice (some ⟨g,0,none⟩) ps.length c],.int .i64 0])∧ps.length≤c∧Hid (W.heap.size≤g)∧Qs w' (some ⟨g,0,none⟩) (ps.map ofP)∧Bel W w'
section
variable {names ps:List ByteArray}
theorem partsL_bad {css:List (List ByteArray)} {k:Nat} {a:List ByteArray} (hk:css[k]? = some a) (h:partD names ps a=none):partsL names ps css=none:=by
 induction css generalizing k with
 | nil=>simp at hk
 | cons b css ih =>
   cases k with
   | zero =>
     simp at hk;subst hk
     unfold partsL
     rw [h];rfl
   | succ k =>
     unfold partsL
     rw [ih (k:=k) (by simpa using hk)]
     cases partD names ps b <;> rfl
theorem partsL_take {css:List (List ByteArray)} {k:Nat} {a:List ByteArray} {p:PL} {r:List PL} (hk:css[k]? = some a) (h:partD names ps a=some p) (hr:partsL names ps (css.take k)=some r):partsL names ps (css.take (k + 1))=some (r ++ [p]):=by
 induction css generalizing k r with
 | nil=>simp at hk
 | cons b css ih =>
   cases k with
   | zero =>
     simp at hk;subst hk
     simp only [List.take_zero] at hr
     injection hr with hr
     subst hr
     simp only [List.take_succ_cons,List.take_zero]
     unfold partsL
     rw [h];rfl
   | succ k =>
     simp only [List.take_succ_cons] at hr ⊢
     unfold partsL at hr ⊢
     cases hb:partD names ps b with
     | none=>rw [hb] at hr;cases hr
     | some q =>
       rw [hb] at hr
       simp only [Option.bind_some] at hr ⊢
       cases ht:partsL names ps (css.take k) with
       | none=>rw [ht] at hr;cases hr
       | some r' =>
         rw [ht] at hr
         simp only [Option.map_some,Option.some.injEq] at hr
         rw [ih (k:=k) (by simpa using hk) ht,← hr]
         rfl
theorem partsL_len {css:List (List ByteArray)} {r:List PL} (h:partsL names ps css=some r):r.length=css.length:=by
 induction css generalizing r with
 | nil=>injection h with h;subst h;rfl
 | cons b css ih =>
   unfold partsL at h
   cases hb:partD names ps b with
   | none=>rw [hb] at h;cases h
   | some q =>
     cases ht:partsL names ps css with
     | none=>rw [hb,ht] at h;cases h
     | some r' =>
       rw [hb,ht] at h
       injection h with h
       rw [← h,List.length_cons,List.length_cons,ih ht]
theorem partsL_ok {css:List (List ByteArray)} {r:List PL} (h:partsL names ps css=some r):∀ p ∈ r,okP p∧p.1.length + p.2.1.length≤8:=by
 induction css generalizing r with
 | nil=>injection h with h;subst h;intro p hp;cases hp
 | cons b css ih =>
   unfold partsL at h
   cases hb:partD names ps b with
   | none=>rw [hb] at h;cases h
   | some q =>
     cases ht:partsL names ps css with
     | none=>rw [hb,ht] at h;cases h
     | some r' =>
       rw [hb,ht] at h
       injection h with h
       rw [← h]
       intro p hp
       rcases List.mem_cons.1 hp with rfl | hp
       ·exact partC_ok hb
       ·exact ih ht p hp
end
theorem plain_add3 (g k:Nat):(⟨g,0,none⟩:Addr).add k=⟨g,k,none⟩:=by
 unfold Addr.add;split <;> simp_all
def RowP (W:World) (g m:Nat) (qs:List QL):Prop:=Hid (∃ vs:List Value,At W g vs∧vs.length=3 * m∧(∀ j q,qs[j]? = some q → ∃ v1 v2 v3,vs[j * 3]? = some v1∧vs[j * 3 + 1]? = some v2∧vs[j * 3 + 2]? = some v3∧Q1 W v1 v2 v3 q) ∧
 ∀ i,qs.length * 3≤i→i < 3 * m→vs[i]? = some (.slice none 0 0))
section
variable {W W':World} {g m k:Nat} {qs:List QL} {q:QL} {v1 v2 v3:Value}
theorem RowP.up (h:RowP W g m qs) (hb:Hid (Below W.heap.size W W')):RowP W' g m qs:=by
 obtain ⟨vs,h1,h2,h3,h4⟩:=h.out
 refine ⟨vs,h1.up hb,h2,fun j q hj=>?_,h4⟩
 obtain ⟨v1,v2,v3,e1,e2,e3,e4⟩:=h3 j q hj
 exact ⟨v1,v2,v3,e1,e2,e3,e4.up hb⟩
theorem RowP.al (h:RowP W g m qs) (o:Obj):RowP (W.alloc o) g m qs:=h.up ((Below.refl _ _).alloc (Nat.le_refl _) o)
theorem RowP.lt (h:RowP W g m qs):g < W.heap.size:=by
 obtain ⟨vs,h1,_⟩:=h.out
 exact h1.lt
theorem RowP.zero (h:RowP W g m qs) (hl:qs.length=k) (hk:k < m) (i:Nat) (hi:i < 3):W.cell? ⟨g,k * 3 + i,none⟩=some (.slice none 0 0)∧W.frozen? ⟨g,k * 3 + i,none⟩=false:=by
 obtain ⟨vs,h1,_,_,h4⟩:=h.out
 exact h1.all _ _ (h4 (k * 3 + i) (by omega) (by omega))
theorem RowP.put (h:RowP W g m qs) (hl:qs.length=k) (hk:k < m) (hq:Q1 W v1 v2 v3 q):RowP (((W.setCell ⟨g,k * 3,none⟩ v1).setCell ⟨g,k * 3 + 1,none⟩ v2).setCell ⟨g,k * 3 + 2,none⟩ v3) g m (qs ++ [q]):=by
 obtain ⟨vs,h1,h2,h3,h4⟩:=h.out
 have z0:=h4 (k * 3) (by omega) (by omega)
 have z1:=h4 (k * 3 + 1) (by omega) (by omega)
 have z2:=h4 (k * 3 + 2) (by omega) (by omega)
 have p1:=h1.put (i:=k * 3) (by omega) v1
 have z1':(vs.set (k * 3) v1)[k * 3 + 1]? = some (.slice none 0 0):=by rw [List.getElem?_set_ne (by omega)];exact z1
 have z2':((vs.set (k * 3) v1).set (k * 3 + 1) v2)[k * 3 + 2]? = some (.slice none 0 0):=by rw [List.getElem?_set_ne (by omega),List.getElem?_set_ne (by omega)];exact z2
 have p2:=p1.put (i:=k * 3 + 1) (by rw [List.length_set];omega) v2
 have p3:=p2.put (i:=k * 3 + 2) (by rw [List.length_set,List.length_set];omega) v3
 have hs:∀ {u1 u2 u3:Value} {q':QL},Q1 W u1 u2 u3 q'→Q1 (((W.setCell ⟨g,k * 3,none⟩ v1).setCell ⟨g,k * 3 + 1,none⟩ v2).setCell ⟨g,k * 3 + 2,none⟩ v3) u1 u2 u3 q':=fun hu =>
  ((hu.setn (h1.ci z0) v1).setn (p1.ci z1') v2).setn (p2.ci z2') v3
 refine ⟨_,p3,by simp [h2],fun j q' hj=>?_,fun i hi1 hi2=>?_⟩
 ·rcases Nat.lt_or_ge j k with hjk | hjk
  ·rw [List.getElem?_append_left (by omega)] at hj
   obtain ⟨u1,u2,u3,e1,e2,e3,e4⟩:=h3 j q' hj
   refine ⟨u1,u2,u3,?_,?_,?_,hs e4⟩
   ·rw [List.getElem?_set_ne (by omega),List.getElem?_set_ne (by omega),List.getElem?_set_ne (by omega)];exact e1
   ·rw [List.getElem?_set_ne (by omega),List.getElem?_set_ne (by omega),List.getElem?_set_ne (by omega)];exact e2
   ·rw [List.getElem?_set_ne (by omega),List.getElem?_set_ne (by omega),List.getElem?_set_ne (by omega)];exact e3
  ·rw [List.getElem?_append_right (by omega)] at hj
   have hj0:j=k:=by
    have:=(List.getElem?_eq_some_iff.1 hj).1
    simp at this;omega
   subst hj0
   rw [show j - qs.length=0 by omega] at hj
   simp at hj
   subst hj
   refine ⟨v1,v2,v3,?_,?_,?_,hs hq⟩
   ·rw [List.getElem?_set_ne (by omega),List.getElem?_set_ne (by omega),List.getElem?_set_self (by omega)]
   ·rw [List.getElem?_set_ne (by omega),List.getElem?_set_self (by rw [List.length_set];omega)]
   ·rw [List.getElem?_set_self (by rw [List.length_set,List.length_set];omega)]
 ·rw [List.length_append,List.length_singleton] at hi1
  rw [List.getElem?_set_ne (by omega),List.getElem?_set_ne (by omega),List.getElem?_set_ne (by omega)]
  exact h4 i (by omega) hi2
theorem RowP.rq (h:RowP W g m qs):Qs W (some ⟨g,0,none⟩) qs:=fun h0=>by
 obtain ⟨vs,h1,h2,h3,h4⟩:=h.out
 refine ⟨_,rfl,h1.lt,fun j q hj=>?_⟩
 obtain ⟨v1,v2,v3,e1,e2,e3,e4⟩:=h3 j q hj
 exact ⟨v1,v2,v3,by rw [plain_add3];exact h1.ci e1,by rw [plain_add3];exact h1.ci e2,by rw [plain_add3];exact h1.ci e3,e4.out⟩
end
theorem Tryz.infoPart:(Tryz.prog.info? 44).map (fun i=>(i.zero,i.size,i.bytes))=some (some (.agg #[.slice none 0 0,.slice none 0 0,.slice none 0 0]),3,72):=by kernel_rfl
theorem make_parts (n:Nat) (hn:n≤1000000) (w:World):(Instr.makeSlice 30 (.int .i64 (n:Int)) (.int .i64 (n:Int))).run Tryz.prog w =
 .ok (.slice (some ⟨w.heap.size,0,none⟩) n n) (w.alloc (.cells (madeCells #[.slice none 0 0,.slice none 0 0,.slice none 0 0] (n * 3)) 44)):=by
 obtain ⟨i0,hi0,hz0,hz1,hz2⟩:=info_parts Tryz.infoPart
 have h:=run_make (P:=Tryz.prog) w 30 44 i0 (.agg #[.slice none 0 0,.slice none 0 0,.slice none 0 0]) Tryz.underlying30 hi0 hz0 .i64 .i64 n n (by omega) (by omega) (by rw [hz2];omega) (by omega)
 simpa [hz1,Value.cells] using h
theorem made_parts (w:World) (n:Nat) (t:TypeId):RowP (w.alloc (.cells (madeCells #[.slice none 0 0,.slice none 0 0,.slice none 0 0] (n * 3)) t)) w.heap.size n []:=by
 have e:madeCells #[Value.slice none 0 0,.slice none 0 0,.slice none 0 0] (n * 3)=(List.replicate (n * 3) (Value.slice none 0 0)).toArray:=by
  apply Array.ext
  ·simp [size_madeCells]
  ·intro i h1 h2
   have h3:i % 3=0 ∨ i % 3=1 ∨ i % 3=2:=by omega
   rcases h3 with h3 | h3 | h3 <;> simp [madeCells,h3]
 rw [e]
 exact ⟨_,at_new0 _ _ _,by simp;omega,fun j q hj=>by simp at hj,fun i _ hi=>by rw [List.getElem?_replicate,if_pos (by omega)]⟩
theorem RowP.far {W:World} {g m b i:Nat} {qs:List QL} {A':Option Addr} {n c:Nat} (h:RowP W g m qs) (hb:b ≠ g) (hc:W.cell? ⟨b,i,none⟩=some (.slice A' n c)) (u:Value):RowP (W.setCell ⟨b,i,none⟩ u) g m qs:=by
 obtain ⟨vs,h1,h2,h3,h4⟩:=h.out
 refine ⟨vs,h1.far hb u,h2,fun j q hj=>?_,h4⟩
 obtain ⟨v1,v2,v3,e1,e2,e3,e4⟩:=h3 j q hj
 exact ⟨v1,v2,v3,e1,e2,e3,e4.setn hc u⟩
section
variable {A B:Option Addr} {n c m d:Nat} {names ps:List ByteArray} {s:ByteArray} {w:World}
theorem uparse_no {v:Int} (hv:v=11 ∨ v=2) (hs:∀ W,Calls Tryz.prog 28 #[.string s] W (SplitNo W v)):Calls Tryz.prog 29 #[.agg #[.slice A n c,.slice B m d],.string s] w (UnitR w (.error v)):=by
 obtain ⟨W1,hW1⟩:∃ X,X=(w.alloc (.cells #[.slice A n c,.slice B m d] 62)).alloc (.cells #[.slice none 0 0] 32):=⟨_,rfl⟩
 have HR:At W1 (w.heap.size + 1) [.slice none 0 0]:=by rw [hW1];exact at_new1 _ _ _ _
 have HB:Bel w W1:=by rw [hW1];exact ((Bel.refl w).al _).al _
 have CS:=khide hs
 have HW:=khide hW1
 have d1:(v != 0)=true:=by rcases hv with rfl | rfl <;> rfl
 have d0:(v == 0)=false:=by rcases hv with rfl | rfl <;> rfl
 clear hs hW1 hv
 go_enter Tryz.func29,Tryz.ntmps29
 go_upto_region 1 with fail
 rw [← HW.out]
 have hr_0:=HR.c0;have hr_f0:=HR.f0;have hr_l:=HR.lt
 go_wp2_with (first | (go_at_call 28;(with_reducible refine (CS.out _).mono ?_);rintro e w2 ⟨rfl,hb2⟩;clear hr_0 hr_f0 hr_l;replace HR:=HR.up hb2;replace HB:=HB.up hb2;have hr_0:=HR.c0;have hr_f0:=HR.f0;have hr_l:=HR.lt) | fail)
 refine bodyPost_ret (v:=.tuple #[.agg #[.slice none 0 0],.int .i64 v]) (by simp [results,Tryz.results29,go_sem,hr_0,hr_l]) rfl ?_
 exact ⟨rfl,Below.setCell HB (Nat.le_succ _) _⟩
theorem uparse_many {xs:List ByteArray} {css:List (List ByteArray)} (hx:xs.length≤1000) (hs:∀ W,Calls Tryz.prog 28 #[.string s] W (SplitOk W xs)) (hc:cutBy andB xs=css) (hl:4 < css.length):Calls Tryz.prog 29 #[.agg #[.slice A n c,.slice B m d],.string s] w (UnitR w (.error 2)):=by
 obtain ⟨W1,hW1⟩:∃ X,X=(w.alloc (.cells #[.slice A n c,.slice B m d] 62)).alloc (.cells #[.slice none 0 0] 32):=⟨_,rfl⟩
 have HR:At W1 (w.heap.size + 1) [.slice none 0 0]:=by rw [hW1];exact at_new1 _ _ _ _
 have HB:Bel w W1:=by rw [hW1];exact ((Bel.refl w).al _).al _
 have CS:=khide hs
 have CC:Hid (∀ (W:World) (ad:Addr) (c:Nat),Ss W (some ad) xs→Calls Tryz.prog 57 #[.slice (some ad) xs.length c,.string ⟨#[97,110,100]⟩] W (ListsC W css)):=fun W ad c h=>hc ▸ wcut_any (t:=andB) h rfl (by omega)
 have HW:=khide hW1
 have d0:decide ((4:Int) < (css.length:Int))=true:=decide_eq_true (by omega)
 have d1:decide (4 < css.length)=true:=decide_eq_true (by omega)
 clear hs hW1 hc hx
 go_enter Tryz.func29,Tryz.ntmps29
 go_upto_region 1 with fail
 rw [← HW.out]
 have hr_0:=HR.c0;have hr_f0:=HR.f0;have hr_l:=HR.lt
 go_wp2_with (first | (go_at_call 28;(with_reducible refine (CS.out _).mono ?_);rintro e w2 ⟨ad,k,rfl,hk,HS,hb2⟩;clear hr_0 hr_f0 hr_l;replace HR:=HR.up hb2;replace HB:=HB.up hb2;have hr_0:=HR.c0;have hr_f0:=HR.f0;have hr_l:=HR.lt) | (go_at_call 57;(with_reducible refine (CC.out _ _ _ HS).mono ?_);rintro e w3 ⟨ad3,k3,rfl,hss,hcap,hb3⟩;clear hr_0 hr_f0 hr_l;replace HR:=HR.up hb3;replace HB:=HB.up hb3;have hr_0:=HR.c0;have hr_f0:=HR.f0;have hr_l:=HR.lt) | fail)
 refine bodyPost_ret (v:=.tuple #[.agg #[.slice none 0 0],.int .i64 2]) (by simp [results,Tryz.results29,go_sem,hr_0,hr_l]) rfl ?_
 exact ⟨rfl,Below.setCell HB (Nat.le_succ _) _⟩
def resOf (o:Option (List PL)):Except Int (List PL):=match o with
 | none=>.error 2
 | some r=>.ok r
abbrev PPart (w:World) (A B:Option Addr) (n c m d:Nat) (l:List ByteArray) (r:Option PL):Prop :=
 ∀ (W:World) (D:Option Addr) (j g:Nat),Bel w W→Ss W D l→j=l.length→Calls Tryz.prog 58 #[.agg #[.slice A n c,.slice B m d],.slice D j g] W (PartP W r)
theorem uparse_rest {xs:List ByteArray} {css:List (List ByteArray)} (hx:xs.length≤1000) (hs:∀ W,Calls Tryz.prog 28 #[.string s] W (SplitOk W xs)) (hc:cutBy andB xs=css) (hl:css.length≤4) (hp:∀ l ∈ css,PPart w A B n c m d l (partD names ps l)) :
 Calls Tryz.prog 29 #[.agg #[.slice A n c,.slice B m d],.string s] w (UnitR w (resOf (partsL names ps css))):=by
 obtain ⟨res,hres⟩:∃ x,resOf (partsL names ps css)=x:=⟨_,rfl⟩
 rw [hres]
 have HRES:=khide hres
 clear hres
 obtain ⟨W1,hW1⟩:∃ X,X=(w.alloc (.cells #[.slice A n c,.slice B m d] 62)).alloc (.cells #[.slice none 0 0] 32):=⟨_,rfl⟩
 have HK:At W1 w.heap.size [.slice A n c,.slice B m d]:=by rw [hW1];exact (at_new0 _ _ _).al _
 have HR:At W1 (w.heap.size + 1) [.slice none 0 0]:=by rw [hW1];exact at_new1 _ _ _ _
 have HB:Bel w W1:=by rw [hW1];exact ((Bel.refl w).al _).al _
 have CS:=khide hs
 have CP:=khide hp
 have CC:Hid (∀ (W:World) (ad:Addr) (c:Nat),Ss W (some ad) xs→Calls Tryz.prog 57 #[.slice (some ad) xs.length c,.string ⟨#[97,110,100]⟩] W (ListsC W css)):=fun W ad c h=>hc ▸ wcut_any (t:=andB) h rfl (by omega)
 obtain ⟨z,hz⟩:∃ z,css.length=z:=⟨_,rfl⟩
 have HZ:=khide hz
 rw [hz] at hl
 have CC2:Hid (∀ (W:World) (ad:Addr) (c:Nat),Ss W (some ad) xs→Calls Tryz.prog 57 #[.slice (some ad) xs.length c,.string ⟨#[97,110,100]⟩] W (fun e w'=>∃ ad c,e = .returned (.slice (some ad) z c)∧Sss w' (some ad) css∧Caps w' ad css∧Hid (Below W.heap.size W w'))):=fun W ad c h=>by
  have:=CC.out W ad c h
  unfold ListsC at this
  rwa [hz] at this
 have hmk:∀ W:World,(Instr.makeSlice 30 (.int .i64 (z:Int)) (.int .i64 (z:Int))).run Tryz.prog W = .ok (.slice (some ⟨W.heap.size,0,none⟩) z z) (W.alloc (.cells (madeCells #[.slice none 0 0,.slice none 0 0,.slice none 0 0] (z * 3)) 44)):=fun W=>make_parts z (by omega) W
 have HW:=khide hW1
 have d0:decide ((4:Int) < (z:Int))=false:=decide_eq_false (by omega)
 have d1:decide (4 < z)=false:=decide_eq_false (by omega)
 have d2:¬ 4 < z:=by omega
 clear hs hW1 hc hx hz hp CC
 go_enter Tryz.func29,Tryz.ntmps29
 go_upto_region 1 with fail
 rw [← HW.out]
 go_upto_region 7 with (first | (go_at_call 28;(with_reducible refine (CS.out _).mono ?_);rintro e w2 ⟨ad,k,rfl,hk,HS,hb2⟩;replace HK:=HK.up hb2;replace HR:=HR.up hb2;replace HB:=HB.up hb2) | (go_at_call 57;(with_reducible refine (CC2.out _ _ _ HS).mono ?_);rintro e w3 ⟨ad3,k3,rfl,hss,hcap,hb3⟩;replace HK:=HK.up hb3;replace HR:=HR.up hb3;replace HB:=HB.up hb3) | fail)
 clear hb2 hb3 hk HS CC2 CS HW W1
 go_upto_region 8 with fail
 refine kwp_named ?_
 intro W4 hW4
 have HP:RowP W4 w3.heap.size z []:=by rw [hW4];exact made_parts _ _ _
 have HG:Hid (w.heap.size + 1 < w3.heap.size):=HR.lt
 replace HK:At W4 w.heap.size [.slice A n c,.slice B m d]:=by rw [hW4];exact HK.al _
 replace HR:At W4 (w.heap.size + 1) [.slice none 0 0]:=by rw [hW4];exact HR.al _
 replace HB:Bel w W4:=by rw [hW4];exact HB.al _
 have hb4:Hid (Below w3.heap.size w3 W4):=by rw [hW4];exact (Below.refl _ _).alloc (Nat.le_refl _) _
 obtain ⟨g,hg⟩:∃ g,g=w3.heap.size:=⟨_,rfl⟩
 rw [← hg] at HP HG
 rw [← hg]
 have HG2:=khide hg
 clear hW4 hg hmk
 go_wp2_with fail
 go_loopw [34] (fun iv wr=>∃ (k:Nat) (r:List PL),k≤z∧iv = .int .i64 (k:Int)∧r.length=k∧Hid (partsL names ps (css.take k)=some r)∧RowP wr g z (r.map ofP)∧Hid (At wr w.heap.size [.slice A n c,.slice B m d])∧Hid (At wr (w.heap.size + 1) [.slice none 0 0])∧Hid (Below w3.heap.size w3 wr)∧Hid (Bel w wr)) (fun iv _=>z - (intOf iv).toNat)
 case atStart=>exact ⟨0,[],Nat.zero_le _,rfl,rfl,rfl,HP,HK,HR,hb4,HB⟩
 case round =>
  clear HP HK HR HB hb4
  obtain ⟨k,r,hk,rfl,hrk,HV,HP,HK,HR,HB3,HB⟩:=hrel
  have HK':=HK.out;have HR':=HR.out
  by_cases hlt:k < z
  ·obtain ⟨a,ha⟩:∃ a,css[k]? = some a:=⟨css[k]'(by rw [HZ.out];exact hlt),List.getElem?_eq_getElem _⟩
   have hx:k < css.length:=by rw [HZ.out];exact hlt
   have hax:css[k]=a:=by
    have:=List.getElem?_eq_getElem hx
    rw [this] at ha;injection ha
   obtain ⟨ad',D0,c0,e0,hab,hc0,hs0,-⟩:=hss.out.at_ hx
   injection e0 with e0
   subst e0
   rw [hax] at hc0 hs0
   have HS0:Ss w3 D0 a:=hs0
   have hcell:wr.cell? (ad3.add k)=some (.slice D0 a.length c0):=(HB3.out.cell (by rw [yblock_add];exact hab)).trans hc0
   have CA:Hid (∀ W:World,Bel w W→Ss W D0 a→Calls Tryz.prog 58 #[.agg #[.slice A n c,.slice B m d],.slice D0 a.length c0] W (PartP W (partD names ps a))):=fun W hb hs=>CP.out a (hax ▸ List.getElem_mem hx) W D0 _ _ hb hs rfl
   have HS1:Ss wr D0 a:=HS0.up HB3
   have k0:(0:Int)≤(k:Int):=by omega
   have k1:(k:Int) < (z:Int):=by omega
   have hk_0:=HK'.c0;have hk_1:=HK'.c1;have hk_l:=HK'.lt
   have hr_0:=HR'.c0;have hr_f0:=HR'.f0;have hr_l:=HR'.lt
   have HA:=khide ha
   have HL:Hid (ad3.block < w3.heap.size):=hab
   clear ha hax hx hc0 hs0 hab HS0 HK HR
   obtain ⟨pr,hpr⟩:∃ pr,partD names ps a=pr:=⟨_,rfl⟩
   have HPR:=khide hpr
   rw [hpr] at CA
   clear hpr
   cases pr with
   | none =>
     have HE:Hid (res = .error 2):=by unfold Hid;rw [← HRES.out,partsL_bad HA.out HPR.out];rfl
     go_wp2_with (first | (go_at_call 58;(with_reducible refine (CA.out _ HB.out HS1).mono ?_);rintro e w5 ⟨A1,n1,c1,A2,n2,c2,A3,n3,c3,rfl,hb5⟩;clear hk_0 hk_1 hk_l hr_0 hr_f0 hr_l hcell;replace HR':=HR'.up hb5.hid;replace HB:=HB.out.up hb5.hid;have hr_0:=HR'.c0;have hr_f0:=HR'.f0;have hr_l:=HR'.lt) | fail)
     (try simp only [Exit.inBlock,Exit.then])
     refine bodyPost_ret (v:=.tuple #[.agg #[.slice none 0 0],.int .i64 2]) (by simp [results,Tryz.results29,go_sem,hr_0,hr_l]) rfl ?_
     rw [HE.out]
     exact ⟨rfl,Bel.al (Below.setCell HB (Nat.le_succ _) _) _⟩
   | some p =>
     have HV2:Hid (partsL names ps (css.take (k + 1))=some (r ++ [p])):=partsL_take HA.out HPR.out HV.out
     go_upto_region 14 with (first | (go_at_call 58;(with_reducible refine (CA.out _ HB.out HS1).mono ?_);rintro e w5 ⟨v1,v2,v3,rfl,HQ,hb5⟩;obtain ⟨A1,c1,A2,c2,A3,c3,rfl,rfl,rfl,-⟩:=HQ.open_;clear hk_0 hk_1 hk_l hr_0 hr_f0 hr_l hcell;replace HK':=HK'.up hb5.hid;replace HR':=HR'.up hb5.hid;replace HB:=HB.out.up hb5.hid;replace HB3:=khide (HB3.out.trans (hb5.hid.out.mono HB3.out.size));replace HP:=HP.up hb5.hid) | fail)
     refine kwp_named ?_
     intro W6 hW6
     have HX:At W6 w5.heap.size [.slice A1 (ofP p).1.length c1,.slice A2 (ofP p).2.1.length c2,.slice A3 (ofP p).2.2.length c3]:=by rw [hW6];exact at_new0 _ _ _
     replace HQ:Q1 W6 (.slice A1 (ofP p).1.length c1) (.slice A2 (ofP p).2.1.length c2) (.slice A3 (ofP p).2.2.length c3) (ofP p):=by rw [hW6];exact HQ.al _
     have hgx:g ≠ w5.heap.size:=Nat.ne_of_lt HP.lt
     have hpx:w5.heap.size ≠ w.heap.size:=Nat.ne_of_gt HK'.lt
     replace HP:RowP W6 g z (r.map ofP):=by rw [hW6];exact HP.al _
     replace HK':At W6 w.heap.size [.slice A n c,.slice B m d]:=by rw [hW6];exact HK'.al _
     replace HR':At W6 (w.heap.size + 1) [.slice none 0 0]:=by rw [hW6];exact HR'.al _
     replace HB:Bel w W6:=by rw [hW6];exact HB.al _
     replace HB3:Hid (Below w3.heap.size w3 W6):=by rw [hW6];exact HB3.out.alloc HB3.out.size _
     obtain ⟨px,hpx2⟩:∃ x,x=w5.heap.size:=⟨_,rfl⟩
     rw [← hpx2] at HX hgx hpx
     rw [← hpx2]
     clear hW6 hpx2 hb5
     have hx_0:=HX.c0;have hx_1:=HX.c1;have hx_2:=HX.c2;have hx_l:=HX.lt
     have hrl:(r.map ofP).length=k:=by rw [List.length_map];exact hrk
     obtain ⟨z0,f0⟩:=HP.zero hrl hlt 0 (by omega)
     obtain ⟨z1,f1⟩:=HP.zero hrl hlt 1 (by omega)
     obtain ⟨z2,f2⟩:=HP.zero hrl hlt 2 (by omega)
     simp only [Nat.add_zero] at z0 f0
     have gl:=HP.lt
     have HP2:=HP.put hrl hlt HQ
     have hgk:g ≠ w.heap.size:=by have:=HG.out;omega
     have hgr:g ≠ w.heap.size + 1:=by have:=HG.out;omega
     have HK2:=((HK'.far hgk (i:=k * 3) (.slice A1 (ofP p).1.length c1)).far hgk (i:=k * 3 + 1) (.slice A2 (ofP p).2.1.length c2)).far hgk (i:=k * 3 + 2) (.slice A3 (ofP p).2.2.length c3)
     have HR2:=((HR'.far hgr (i:=k * 3) (.slice A1 (ofP p).1.length c1)).far hgr (i:=k * 3 + 1) (.slice A2 (ofP p).2.1.length c2)).far hgr (i:=k * 3 + 2) (.slice A3 (ofP p).2.2.length c3)
     have HB2:Bel w (((W6.setCell ⟨g,k * 3,none⟩ (.slice A1 (ofP p).1.length c1)).setCell ⟨g,k * 3 + 1,none⟩ (.slice A2 (ofP p).2.1.length c2)).setCell ⟨g,k * 3 + 2,none⟩ (.slice A3 (ofP p).2.2.length c3)):=by
      have hwg:w.heap.size≤g:=by have:=HG.out;omega
      exact Below.setCell (Below.setCell (Below.setCell HB hwg _) hwg _) hwg _
     have HB4:Hid (Below w3.heap.size w3 (((W6.setCell ⟨g,k * 3,none⟩ (.slice A1 (ofP p).1.length c1)).setCell ⟨g,k * 3 + 1,none⟩ (.slice A2 (ofP p).2.1.length c2)).setCell ⟨g,k * 3 + 2,none⟩ (.slice A3 (ofP p).2.2.length c3))):=by
      have hwg:w3.heap.size≤g:=by rw [HG2.out];exact Nat.le_refl _
      exact Below.setCell (Below.setCell (Below.setCell HB3.out hwg _) hwg _) hwg _
     have HP3:=khide HP2;have HK3:=khide HK2;have HR3:=khide HR2;have HB5:=khide HB2
     clear HP2 HK2 HR2 HB2 HP HK' HR' HB HB3 HQ HX hrl
     go_wp2_with fail
     go_roundw
     case rel =>
      have hrl2:(r ++ [p]).length=k + 1:=by rw [List.length_append,hrk];rfl
      refine ⟨k + 1,r ++ [p],by omega,by go_num,hrl2,HV2,?_,HK3,HR3,HB4,HB5⟩
      rw [List.map_append]
      exact HP3.out
     case measure=>simp [intOf];omega
  ·obtain rfl:k=z:=by omega
   have HE:Hid (res = .ok r):=by
    have h9:=HV.out
    rw [List.take_of_length_le (by rw [HZ.out];exact Nat.le_refl _)] at h9
    unfold Hid;rw [← HRES.out,h9];rfl
   have hr_0:=HR'.c0;have hr_f0:=HR'.f0;have hr_l:=HR'.lt
   go_wp2_with fail
   (try simp only [Exit.inBlock,Exit.then])
   refine bodyPost_ret (v:=.tuple #[.agg #[.slice (some ⟨g,0,none⟩) k k],.int .i64 0]) (by simp [results,Tryz.results29,go_sem,hr_0,hr_l]) rfl ?_
   rw [HE.out]
   refine ⟨g,k,by rw [hrk],by omega,Nat.le_of_lt (Nat.lt_of_succ_lt HG.out),?_,Below.setCell HB.out (Nat.le_succ _) _⟩
   exact (HP.far (by have:=HG.out;omega) HR'.c0 _).rq
theorem goodAll_size {xs:List ByteArray} (h:goodAll xs=true):∀ x ∈ xs,x.size≤20:=fun x hx=>by
 have h1:=List.all_eq_true.1 h x hx
 unfold goodW at h1
 simp only [Bool.and_eq_true,decide_eq_true_eq] at h1
 have:=h1.2.1
 rw [Lib.size_eq];exact this
theorem uparse_any (h:Ss w A names) (hn:n=names.length) (hl:n≤1000000) (h':Ss w B ps) (hm:m=ps.length) (hl':m≤1000000):Calls Tryz.prog 29 #[.agg #[.slice A n c,.slice B m d],.string s] w (UnitR w (unitD names ps s)):=by
 unfold unitD
 by_cases h1:256 < s.size
 ·rw [if_pos h1]
  exact uparse_no (.inl rfl) (fun W=>wsplit_long h1 W)
 ·rw [if_neg h1]
  have h1':s.size≤256:=by omega
  by_cases h2:goodAll (pcs s)=false
  ·rw [if_pos h2]
   refine uparse_no (.inr rfl) (fun W=>?_)
   have h3:=wsplit_any (s:=s) h1' W
   rw [h2] at h3
   exact h3
  ·rw [if_neg h2]
   have h2':goodAll (pcs s)=true:=by simpa using h2
   have hs:∀ W,Calls Tryz.prog 28 #[.string s] W (SplitOk W (pcs s)):=fun W=>by
    have h3:=wsplit_any (s:=s) h1' W
    rw [h2'] at h3
    exact h3
   have hx:(pcs s).length≤1000:=by have:=pcs_le s;omega
   by_cases h4:4 < (cutBy andB (pcs s)).length
   ·rw [if_pos h4]
    exact uparse_many hx hs rfl h4
   ·rw [if_neg h4]
    refine uparse_rest hx hs rfl (by omega) (fun l hl0 W D j g hb hss hj=>?_)
    have hls:∀ x ∈ l,x.size≤1000:=fun x hx0=>by
     have:=goodAll_size h2' x (cutBy_mem _ l hl0 x hx0)
     omega
    have hll:l.length≤(pcs s).length:=cutBy_piece hl0
    exact ppart_any (h.up hb.hid) hn hl (h'.up hb.hid) hm hl' hss hj (by omega) hls
end
end Go.Proofs.YtfflmmbhpchloaaGreatDoor
end
