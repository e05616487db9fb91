/- Each theorem here says its own conditions. -/
import Derived.Test.YtfflmmbhpchloaaGreatDoorGTpwc0
import Derived.Lib.Strings
import Derived.Lib.SlTrimSet
import Derived.Laws.Strings
import Derived.Laws.OwnMore
import Derived.Maps.AppendAt
import Derived.BigQuiet
import Derived.Deep.QuietTactic
import Derived.Deep.Draws
import Derived.WalkSpells
import Derived.Shelf.Abstract
set_option maxRecDepth 100000
set_option maxHeartbeats 16000000
section
namespace Go.Proofs.YtfflmmbhpchloaaGreatDoor
def sqB:ByteArray:=⟨#[115,113,117,97,114,101]⟩
def cuB:ByteArray:=⟨#[99,117,98,105,99]⟩
def powB:ByteArray:=⟨#[112,111,119]⟩
def perB:ByteArray:=⟨#[112,101,114]⟩
def andB:ByteArray:=⟨#[97,110,100]⟩
def numB (n:Nat):ByteArray:=if n < 10 then ⟨#[UInt8.ofNat (48 + n)]⟩ else ⟨#[UInt8.ofNat (48 + n / 10),UInt8.ofNat (48 + n % 10)]⟩
theorem decDigits_num {n:Nat} (h:n < 100):(⟨(Lib.decDigits n).toArray⟩:ByteArray)=numB n:=by
 unfold numB
 by_cases h1:n < 10
 ·rw [Lib.decDigits,dif_pos h1,if_pos h1]
 ·rw [Lib.decDigits,dif_neg h1,Lib.decDigits,dif_pos (by omega),if_neg h1];rfl
def pwB (n:Nat):ByteArray:=if n=2 then sqB else if n=3 then cuB else powB ++ numB n
def powOf (s:ByteArray):Nat:=((List.range 16).find? (fun n=>decide (2≤n∧s=pwB n))).getD 0
theorem powOf_pw:∀ n,n < 16→2≤n→powOf (pwB n)=n:=by decide +kernel
theorem pwB_size:∀ n,n < 16→2≤n→(pwB n).size≤6:=by decide +kernel
theorem powOf_no {s:ByteArray} (h:∀ n,n < 16→2≤n→s ≠ pwB n):powOf s=0:=by
 have:(List.range 16).find? (fun n=>decide (2≤n∧s=pwB n))=none:=by
  rw [List.find?_eq_none]
  intro n hn
  simp only [decide_eq_true_eq,not_and]
  exact h n (List.mem_range.1 hn)
 unfold powOf;rw [this];rfl
theorem powOf_is (s:ByteArray):powOf s=0 ∨ (2≤powOf s∧powOf s < 16∧s=pwB (powOf s)):=by
 unfold powOf
 cases hf:(List.range 16).find? (fun n=>decide (2≤n∧s=pwB n)) with
 | none=>exact .inl rfl
 | some n =>
   have h1:=List.find?_some hf
   have h2:=List.mem_range.1 (List.mem_of_find?_eq_some hf)
   simp only [decide_eq_true_eq] at h1
   exact .inr ⟨h1.1,h2,h1.2⟩
def digitsB (l:List UInt8):Bool:=!l.isEmpty && l.all wdig
def digitSet:List UInt8:=[48,49,50,51,52,53,54,55,56,57]
theorem digitSet_has (c:UInt8):digitSet.contains c=wdig c:=by
 revert c
 have h:∀ n,n < 256→digitSet.contains (UInt8.ofNat n)=wdig (UInt8.ofNat n):=by decide +kernel
 intro c
 have:=h c.toNat (UInt8.toNat_lt c)
 rwa [UInt8.ofNat_toNat] at this
theorem trim_digits (l:List UInt8):(Lib.trimS l digitSet).isEmpty=l.all wdig:=by
 have e:(fun c=>digitSet.contains c)=wdig:=funext digitSet_has
 unfold Lib.trimS Lib.trimLeftS Lib.trimRightS
 rw [e]
 have hp:∀ l:List UInt8,(l.dropWhile wdig).isEmpty=l.all wdig:=by
  intro l
  induction l with
  | nil=>rfl
  | cons c l ih =>
    rw [List.dropWhile_cons,List.all_cons]
    cases hc:wdig c
    ·simp
    ·simpa using ih
 by_cases ha:l.all wdig=true
 ·rw [ha]
  have h1:l.reverse.dropWhile wdig=[]:=by
   have:=hp l.reverse
   rw [List.all_reverse,ha] at this
   simpa using this
  rw [h1];rfl
 ·rw [hp,List.all_reverse]
  have h1:l.reverse.dropWhile wdig ≠ []:=by
   intro h
   have:=hp l.reverse
   rw [h,List.all_reverse] at this
   exact ha this.symm
  have h2:¬ (l.reverse.dropWhile wdig).all wdig=true:=by
   intro h
   have:=List.head_dropWhile_not (p:=wdig) (l:=l.reverse) h1
   have h3:=List.all_eq_true.1 h _ (List.head_mem h1)
   rw [h3] at this;cases this
  rw [Bool.eq_iff_iff]
  exact ⟨fun h=>absurd h h2,fun h=>absurd h ha⟩
def resB (s:ByteArray):Bool:=decide (s=perB) || (decide (s=andB) || (decide (s=sqB) || (decide (s=cuB) || (digitsB s.data.toList || (Lib.hasPrefix s.data.toList powB.data.toList && digitsB (s.data.toList.drop 3))))))
def mayB (s:ByteArray):Bool:=goodW s.data.toList && !resB s
def hasB (l:List ByteArray) (x:ByteArray):Bool:=l.any fun y=>decide (y=x)
theorem hasB_iff {l:List ByteArray} {x:ByteArray}:hasB l x=true ↔ x ∈ l:=by
 unfold hasB
 rw [List.any_eq_true]
 constructor
 ·rintro ⟨y,hy,h⟩;rw [decide_eq_true_eq] at h;exact h ▸ hy
 ·intro h;exact ⟨x,h,decide_eq_true rfl⟩
theorem hasB_no {l:List ByteArray} {x:ByteArray}:hasB l x=false ↔ x ∉ l:=by
 rw [← hasB_iff,Bool.not_eq_true]
def goodL (xs:List ByteArray):Bool:=xs.all mayB && decide xs.Nodup
theorem goodL_nil:goodL []=true:=rfl
theorem nodup_snoc {xs:List ByteArray} {x:ByteArray}:(xs ++ [x]).Nodup ↔ xs.Nodup∧x ∉ xs:=by
 rw [List.nodup_append]
 constructor
 ·rintro ⟨h1,_,h3⟩
  exact ⟨h1,fun h=>h3 x h x (by simp) rfl⟩
 ·rintro ⟨h1,h2⟩
  refine ⟨h1,by simp,fun a ha b hb=>?_⟩
  rw [List.mem_singleton] at hb
  subst hb
  rintro rfl
  exact h2 ha
theorem goodL_snoc (xs:List ByteArray) (x:ByteArray):goodL (xs ++ [x])=(goodL xs && (mayB x && !hasB xs x)):=by
 unfold goodL
 rw [List.all_append,Bool.eq_iff_iff]
 simp only [Bool.and_eq_true,decide_eq_true_eq,Bool.not_eq_true',hasB_no,nodup_snoc,List.all_cons,List.all_nil,Bool.and_true]
 constructor
 ·rintro ⟨⟨a,b⟩,c,d⟩;exact ⟨⟨a,c⟩,b,d⟩
 ·rintro ⟨⟨a,c⟩,b,d⟩;exact ⟨⟨a,b⟩,c,d⟩
theorem goodL_take {xs:List ByteArray} {k:Nat} (h:k < xs.length):goodL (xs.take (k + 1))=(goodL (xs.take k) && (mayB xs[k] && !hasB (xs.take k) xs[k])):=by
 rw [List.take_succ_eq_append_getElem h,goodL_snoc]
theorem goodL_bad {xs:List ByteArray} {k:Nat} (h:k < xs.length) (hb:goodL (xs.take (k + 1))=false):goodL xs=false:=by
 rw [← List.take_append_drop (k + 1) xs]
 unfold goodL at hb ⊢
 rw [Bool.eq_false_iff] at hb ⊢
 intro hg
 apply hb
 simp only [Bool.and_eq_true,decide_eq_true_eq,List.all_append] at hg ⊢
 exact ⟨hg.1.1,(List.nodup_append.1 hg.2).1⟩
def restB (u:ByteArray) (k:Nat):ByteArray:=u.extract k u.size
def hitB (names:List ByteArray) (u p:ByteArray):Bool:=Lib.hasPrefix u.data.toList p.data.toList && hasB names (restB u p.size)
def lpB (names:List ByteArray) (u:ByteArray) (ps:List ByteArray):Nat:=ps.foldl (fun m p=>if hitB names u p then max m p.size else m) 0
theorem lpB_take {names ps:List ByteArray} {u:ByteArray} {k:Nat} (h:k < ps.length):lpB names u (ps.take (k + 1))=if hitB names u ps[k] then max (lpB names u (ps.take k)) ps[k].size else lpB names u (ps.take k):=by
 unfold lpB
 rw [List.take_succ_eq_append_getElem h,List.foldl_append];rfl
theorem hitB_pre {names:List ByteArray} {u p:ByteArray} (h:hitB names u p=true):p.size≤u.size∧u.extract 0 p.size=p:=by
 unfold hitB at h
 simp only [Bool.and_eq_true] at h
 have h1:p.data.toList <+: u.data.toList:=List.isPrefixOf_iff_prefix.1 h.1
 refine ⟨by rw [Lib.size_eq,Lib.size_eq];exact h1.length_le,?_⟩
 have h2:=List.prefix_iff_eq_take.1 h1
 apply ByteArray.ext
 apply Array.ext'
 rw [ByteArray.data_extract,Array.toList_extract]
 simp only [List.extract,List.drop_zero,Nat.sub_zero]
 rw [Lib.size_eq]
 exact h2.symm
theorem lpB_le {names:List ByteArray} {u:ByteArray} (ps:List ByteArray):∀ k,k≤ps.length→lpB names u (ps.take k)≤u.size:=by
 intro k
 induction k with
 | zero=>intro _;simp [lpB]
 | succ k ih =>
   intro hk
   rw [lpB_take (by omega)]
   split
   ·rename_i hh
    have:=(hitB_pre hh).1
    have:=ih (by omega)
    omega
   ·exact ih (by omega)
def endB (names:List ByteArray) (u:ByteArray) (i:Nat):Bool:=names.any fun x=>Lib.hasSuffix u.data.toList x.data.toList && (u.size - x.size == i)
theorem suffix_iff (u x:ByteArray):Lib.hasSuffix u.data.toList x.data.toList=true ↔ x.size≤u.size∧restB u (u.size - x.size)=x:=by
 unfold Lib.hasSuffix restB
 rw [List.isSuffixOf_iff_suffix,List.suffix_iff_eq_drop]
 constructor
 ·intro h
  have hl:x.size≤u.size:=by
   have:=congrArg List.length h
   rw [List.length_drop] at this
   rw [Lib.size_eq,Lib.size_eq];omega
  refine ⟨hl,?_⟩
  apply ByteArray.ext
  apply Array.ext'
  rw [ByteArray.data_extract,Array.toList_extract]
  rw [Lib.size_eq,Lib.size_eq]
  simp only [List.extract]
  rw [← h,List.take_of_length_le]
  rw [Lib.size_eq,Lib.size_eq] at hl
  omega
 ·rintro ⟨hl,h⟩
  have h2:=congrArg (fun b:ByteArray=>b.data.toList) h
  simp only [ByteArray.data_extract,Array.toList_extract,List.extract] at h2
  rw [List.take_of_length_le (by rw [List.length_drop,Lib.size_eq];omega)] at h2
  rw [Lib.size_eq,Lib.size_eq] at h2
  exact h2.symm
theorem restB_size (u:ByteArray) (k:Nat) (h:k≤u.size):(restB u k).size=u.size - k:=by
 unfold restB;rw [ByteArray.size_extract];omega
theorem endB_mem {names:List ByteArray} {u:ByteArray} {i:Nat} (hi:i≤u.size):endB names u i=hasB names (restB u i):=by
 unfold endB
 rw [Bool.eq_iff_iff,List.any_eq_true,hasB_iff]
 constructor
 ·rintro ⟨x,hx,h⟩
  simp only [Bool.and_eq_true,beq_iff_eq] at h
  obtain ⟨h1,h2⟩:=(suffix_iff u x).1 h.1
  rw [h.2] at h2
  rw [h2];exact hx
 ·intro h
  refine ⟨_,h,?_⟩
  have hs:=restB_size u i hi
  simp only [Bool.and_eq_true,beq_iff_eq]
  refine ⟨(suffix_iff _ _).2 ⟨by omega,?_⟩,by omega⟩
  rw [hs,show u.size - (u.size - i)=i by omega]
theorem endB_take {names:List ByteArray} {u:ByteArray} {i k:Nat} (h:k < names.length):endB (names.take (k + 1)) u i=(endB (names.take k) u i || (Lib.hasSuffix u.data.toList names[k].data.toList && (u.size - names[k].size == i))):=by
 unfold endB
 rw [List.take_succ_eq_append_getElem h,List.any_append];simp
theorem restB_zero (u:ByteArray):restB u 0=u:=by
 unfold restB;exact ByteArray.extract_zero_size
end Go.Proofs.YtfflmmbhpchloaaGreatDoor
end
section
open Go.RowKit
namespace Go.Proofs.YtfflmmbhpchloaaGreatDoor
theorem yblock_add (a:Addr) (n:Nat):(a.add n).block=a.block:=by unfold Addr.add;split <;> rfl
theorem ybelow_drewN {B:Nat} {a w:World} (h:Below B a w) (n:Nat):Below B a (w.drewN n):=⟨h.os,h.tape,h.output,h.size,h.block⟩
def RS (w:World) (B:Nat) (A:Option Addr) (xs:List ByteArray):Prop :=
 0 < xs.length → ∃ ad,A=some ad∧ad.block < B ∧ ∀ j x,xs[j]? = some x→w.cell? (ad.add j)=some (.string x)
section
variable {w w':World} {B B':Nat} {A:Option Addr} {xs:List ByteArray}
theorem RS.nil:RS w B A []:=fun h=>absurd h (by simp)
theorem RS.at_ {k:Nat} (h:RS w B A xs) (hk:k < xs.length):∃ ad,A=some ad∧ad.block < B∧w.cell? (ad.add k)=some (.string xs[k]):=by
 obtain ⟨ad,e,hb,hc⟩:=h (by omega)
 exact ⟨ad,e,hb,hc k _ (List.getElem?_eq_getElem hk)⟩
theorem RS.keep (h:RS w B A xs) (hk:∀ p:Addr,p.block < B→w'.cell? p=w.cell? p):RS w' B A xs:=fun hn=>by
 obtain ⟨ad,e,hb,hc⟩:=h hn
 exact ⟨ad,e,hb,fun j u hu=>(hk _ (by rw [yblock_add];exact hb)).trans (hc j u hu)⟩
theorem RS.more (h:RS w B A xs) (hB:B≤B'):RS w B' A xs:=fun hn=>by
 obtain ⟨ad,e,hb,hc⟩:=h hn
 exact ⟨ad,e,by omega,hc⟩
theorem RS.below (h:RS w B A xs) (hb:Below B w w'):RS w' B A xs:=h.keep fun _ hp=>hb.cell hp
theorem RS.of_own {base:Nat} {e:TypeId} {c:Nat} (h:w.ownsRow base e 1 (.slice A xs.length c) xs.length (xs.map Value.string)):RS w w.heap.size A xs:=fun hn=>by
 rcases h.2 with ⟨h0,h1⟩ | ⟨g,cap,cur,h0,_,hg,_⟩
 ·omega
 ·injection h0 with h0 h1 h2
  subst h0
  refine ⟨_,rfl,(Array.getElem?_eq_some_iff.1 hg).1,fun j x hx=>?_⟩
  exact h.cells (g:=g) rfl j _ (by rw [List.getElem?_map,hx];rfl)
end
def Ss (W:World) (A:Option Addr) (xs:List ByteArray):Prop:=Hid (RS W W.heap.size A xs)
section
variable {W W':World} {A:Option Addr} {xs:List ByteArray}
theorem Ss.up (h:Ss W A xs) (hb:Hid (Below W.heap.size W W')):Ss W' A xs:=(h.out.below hb.out).more hb.out.size
theorem Ss.al (h:Ss W A xs) (o:Obj):Ss (W.alloc o) A xs:=h.up ((Below.refl _ _).alloc (Nat.le_refl _) o)
theorem Ss.dr (h:Ss W A xs):Ss W.drew A xs:=h
theorem Ss.dn (h:Ss W A xs) (k:Nat):Ss (W.drewN k) A xs:=h
end
def RSS (w:World) (B:Nat) (A:Option Addr) (css:List (List ByteArray)):Prop :=
 0 < css.length → ∃ (ad:Addr) (vs:Nat→Option Addr × Nat),A=some ad∧ad.block < B ∧
  ∀ j cs,css[j]? = some cs→w.cell? (ad.add j)=some (.slice (vs j).1 cs.length (vs j).2)∧RS w B (vs j).1 cs∧((vs j).1=none→(vs j).2=0)
section
variable {w w':World} {B B':Nat} {A:Option Addr} {css:List (List ByteArray)}
theorem RSS.at_ {k:Nat} (h:RSS w B A css) (hk:k < css.length):∃ ad A' c,A=some ad∧ad.block < B∧w.cell? (ad.add k)=some (.slice A' css[k].length c)∧RS w B A' css[k]∧(A'=none→c=0):=by
 obtain ⟨ad,vs,e,hb,hc⟩:=h (by omega)
 have:=hc k _ (List.getElem?_eq_getElem hk)
 exact ⟨ad,_,_,e,hb,this.1,this.2.1,this.2.2⟩
end
def Sss (W:World) (A:Option Addr) (css:List (List ByteArray)):Prop:=Hid (RSS W W.heap.size A css)
section
variable {W W':World} {A:Option Addr} {css:List (List ByteArray)}
end
structure Bld (base:Nat) (tO ti:TypeId) (w:World) (v:Value) (css:List (List ByteArray)) (vs:List Value):Prop where
 own:w.ownsRow base tO 1 v css.length vs
 inner:∀ (j:Nat) (x:Value) (cs:List ByteArray),vs[j]? = some x→css[j]? = some cs→w.ownsRow base ti 1 x cs.length (cs.map Value.string)
 apart:∀ (i j:Nat) (x y:Value),vs[i]? = some x→vs[j]? = some y→i ≠ j→x.ownBlock=none ∨ x.ownBlock ≠ y.ownBlock
section
variable {base:Nat} {tO ti:TypeId} {w w':World} {v:Value} {css:List (List ByteArray)} {vs:List Value}
theorem Bld.len (h:Bld base tO ti w v css vs):vs.length=css.length:=by have:=h.own.1;omega
theorem own_type_ne {e e':TypeId} {v v':Value} {n n':Nat} {xs xs':List Value} (h:w.ownsRow base e 1 v n xs) (h':w.ownsRow base e' 1 v' n' xs') (hne:e ≠ e'):v.ownBlock=none ∨ v.ownBlock ≠ v'.ownBlock:=by
 rcases h.2 with ⟨rfl,_⟩ | ⟨g,cap,cur,rfl,_,hg,_⟩
 ·exact .inl rfl
 ·rcases h'.2 with ⟨rfl,_⟩ | ⟨g',cap',cur',rfl,_,hg',_⟩
  ·right;simp [Value.ownBlock]
  ·right
   simp only [Value.ownBlock,ne_eq,Option.some.injEq]
   rintro rfl
   rw [hg] at hg'
   injection hg' with hg'
   injection hg' with _ ht
   exact hne ht
theorem Bld.kept (h:Bld base tO ti w v css vs) {row:Option Nat} (hg:w.grownBy w' row) (hv:v.ownBlock=none ∨ v.ownBlock ≠ row) (hx:∀ x ∈ vs,x.ownBlock=none ∨ x.ownBlock ≠ row):Bld base tO ti w' v css vs :=
 ⟨h.own.kept hg hv,fun j x cs h1 h2=>(h.inner j x cs h1 h2).kept hg (hx x (List.mem_of_getElem? h1)),h.apart⟩
theorem Bld.alloc (h:Bld base tO ti w v css vs) (o:Obj):Bld base tO ti (w.alloc o) v css vs :=
 h.kept (World.grownBy_alloc w o none) (by cases v.ownBlock <;> simp) (fun x _=>by cases x.ownBlock <;> simp)
theorem Bld.more (h:Bld base tO ti w v css vs) (hne:tO ≠ ti) {v':Value} (ho:w'.ownsRow base tO 1 v' (css.length + 1) (vs ++ [.slice none 0 0])) (hg:w.grownBy w' v.ownBlock):Bld base tO ti w' v' (css ++ [[]]) (vs ++ [.slice none 0 0]):=by
 have hl:=h.len
 refine ⟨by simpa using ho,fun j x cs h1 h2=>?_,fun i j x y h1 h2 hij=>?_⟩
 ·rcases Nat.lt_or_ge j vs.length with hj | hj
  ·rw [List.getElem?_append_left hj] at h1
   rw [List.getElem?_append_left (by omega)] at h2
   exact (h.inner j x cs h1 h2).kept hg (own_type_ne (h.inner j x cs h1 h2) h.own (Ne.symm hne))
  ·rw [List.getElem?_append_right hj] at h1
   rw [List.getElem?_append_right (by omega)] at h2
   rw [show j - css.length=j - vs.length by omega] at h2
   cases hk:j - vs.length with
   | zero =>
     rw [hk] at h1 h2
     simp at h1 h2
     subst h1;subst h2
     exact World.ownsRow_nil _ _ _ _
   | succ k=>rw [hk] at h1;simp at h1
 ·rcases Nat.lt_or_ge i vs.length with hi | hi
  ·rw [List.getElem?_append_left hi] at h1
   rcases Nat.lt_or_ge j vs.length with hj | hj
   ·rw [List.getElem?_append_left hj] at h2
    exact h.apart i j x y h1 h2 hij
   ·rw [List.getElem?_append_right hj] at h2
    cases hk:j - vs.length with
    | zero =>
      rw [hk] at h2;simp at h2;subst h2
      cases hx:x.ownBlock <;> simp [Value.ownBlock]
    | succ k=>rw [hk] at h2;simp at h2
  ·rw [List.getElem?_append_right hi] at h1
   cases hk:i - vs.length with
   | zero=>rw [hk] at h1;simp at h1;subst h1;exact .inl rfl
   | succ k=>rw [hk] at h1;simp at h1
end
theorem yhide {p:Prop} (h:p):Hid p:=h
theorem ybool {a b:Bool} (h:a=b):Ending.returned (.bool a) = .returned (.bool b):=by rw [h]
theorem u8le (a b:UInt8):(a≤b) ↔ a.toNat≤b.toNat:=UInt8.le_iff_toNat_le
theorem isDigit_any (c:UInt8) (w:World):Calls Tryz.prog 139 #[.int .u8 (c.toNat:Int)] w fun e w'=>e = .returned (.bool (wdig c))∧w=w':=by
 by_cases h1:(48:Int)≤(c.toNat:Int)
 ·by_cases h2:(c.toNat:Int)≤57
  ·have d1:decide ((48:Int)≤(c.toNat:Int))=true:=decide_eq_true h1
   have d2:decide ((c.toNat:Int)≤57)=true:=decide_eq_true h2
   go_enter Tryz.func139,Tryz.ntmps139
   go_wp2
   go_ret
   exact ⟨ybool (by unfold wdig;simp only [u8le];simp;omega),rfl⟩
  ·have d1:decide ((48:Int)≤(c.toNat:Int))=true:=decide_eq_true h1
   have d2:decide ((c.toNat:Int)≤57)=false:=decide_eq_false h2
   go_enter Tryz.func139,Tryz.ntmps139
   go_wp2
   go_ret
   exact ⟨ybool (by unfold wdig;simp only [u8le];simp;omega),rfl⟩
 ·have d1:decide ((48:Int)≤(c.toNat:Int))=false:=decide_eq_false h1
  go_enter Tryz.func139,Tryz.ntmps139
  go_wp2
  go_ret
  exact ⟨ybool (by unfold wdig;simp only [u8le];simp;omega),rfl⟩
theorem isLetter_any (c:UInt8) (w:World):Calls Tryz.prog 96 #[.int .u8 (c.toNat:Int)] w fun e w'=>e = .returned (.bool (wchar c))∧w=w':=by
 obtain ⟨d,hd⟩:∃ d,wdig c=d:=⟨_,rfl⟩
 have CD:=yhide (fun W=>isDigit_any c W)
 rw [hd] at CD
 have HD:=yhide hd
 clear hd
 by_cases h1:(97:Int)≤(c.toNat:Int)
 ·by_cases h2:(c.toNat:Int)≤122
  ·have d1:decide ((97:Int)≤(c.toNat:Int))=true:=decide_eq_true h1
   have d2:decide ((c.toNat:Int)≤122)=true:=decide_eq_true h2
   go_enter Tryz.func96,Tryz.ntmps96
   go_wp2_with (first | (go_at_call 139;(with_reducible refine (CD.out _).mono ?_);rintro e w1 ⟨rfl,rfl⟩) | fail)
   go_ret
   exact ⟨ybool (by unfold wchar;rw [HD.out];simp only [u8le];simp;omega),rfl⟩
  ·have d1:decide ((97:Int)≤(c.toNat:Int))=true:=decide_eq_true h1
   have d2:decide ((c.toNat:Int)≤122)=false:=decide_eq_false h2
   go_enter Tryz.func96,Tryz.ntmps96
   go_wp2_with (first | (go_at_call 139;(with_reducible refine (CD.out _).mono ?_);rintro e w1 ⟨rfl,rfl⟩) | fail)
   go_ret
   exact ⟨ybool (by unfold wchar;rw [HD.out];simp only [u8le];simp;omega),rfl⟩
 ·have d1:decide ((97:Int)≤(c.toNat:Int))=false:=decide_eq_false h1
  go_enter Tryz.func96,Tryz.ntmps96
  go_wp2_with (first | (go_at_call 139;(with_reducible refine (CD.out _).mono ?_);rintro e w1 ⟨rfl,rfl⟩) | fail)
  go_ret
  exact ⟨ybool (by unfold wchar;rw [HD.out];simp only [u8le];simp;omega),rfl⟩
def consB (p:UInt8→Bool) (l:List UInt8):Bool:=decide (1≤l.length) && (decide (l.length≤20) && l.all p)
theorem all_take {p:UInt8→Bool} {s:ByteArray} {k:Nat} (h:k < s.size):(s.data.toList.take (k + 1)).all p=((s.data.toList.take k).all p && p s[k]):=by
 have e:s.data.toList.take (k + 1)=s.data.toList.take k ++ [s[k]]:=by
  rw [List.take_succ_eq_append_getElem (by simpa using h)];rfl
 rw [e,List.all_append];simp
theorem all_false {p:UInt8→Bool} {s:ByteArray} {k:Nat} (h:k < s.size) (hp:p s[k]=false):s.data.toList.all p=false:=by
 rw [List.all_eq_false]
 refine ⟨s[k],?_,by rw [hp];simp⟩
 exact List.getElem_mem (l:=s.data.toList) (n:=k) (by simpa using h)
theorem consists_any {p:UInt8→Bool} {g:Nat} (hk:∀ (c:UInt8) (W:World),Calls Tryz.prog g #[.int .u8 (c.toNat:Int)] W fun e w'=>e = .returned (.bool (p c))∧W=w')
 (hg:∀ args W,(callFunc g args).run Tryz.prog W = .ok (.enter g args) W) (s:ByteArray) (w:World) :
 Calls Tryz.prog 95 #[.string s,.func (.func g) #[] #[]] w fun e w'=>e = .returned (.bool (consB p s.data.toList))∧w=w':=by
 have CK:=yhide hk
 clear hk
 by_cases h0:s.size=0
 ·have hl:s.toList=[]:=by rw [Lib.toList_data];exact List.eq_nil_of_length_eq_zero h0
  have HL:Hid (s.data.toList=[]):=List.eq_nil_of_length_eq_zero h0
  clear h0
  go_enter Tryz.func95,Tryz.ntmps95
  go_wp2
  go_ret
  exact ⟨ybool (by rw [HL.out];rfl),rfl⟩
 ·have hl:s.toList.isEmpty=false:=by
   rw [Lib.toList_data]
   cases h:s.data.toList with
   | nil=>exact absurd (show s.size=0 by rw [Lib.size_eq,h];rfl) h0
   | cons a l=>rfl
  by_cases h2:20 < s.size
  ·clear h0
   have d2:decide ((20:Int) < (s.size:Int))=true:=decide_eq_true (by omega)
   have HB:Hid (20 < s.size):=h2
   go_enter Tryz.func95,Tryz.ntmps95
   go_wp2
   go_ret
   refine ⟨ybool ?_,rfl⟩
   have:=HB.out
   rw [Lib.size_eq] at this
   unfold consB
   rw [decide_eq_false (show ¬ s.data.toList.length≤20 by omega)]
   simp
  ·have d2:decide ((20:Int) < (s.size:Int))=false:=decide_eq_false (by omega)
   have hs:s.size≤20:=by omega
   have hs1:1≤s.size:=by omega
   clear h0 h2
   go_enter Tryz.func95,Tryz.ntmps95
   go_wp2
   go_loop [15] (fun iv=>∃ k:Nat,k≤s.size∧iv = .int .i64 (k:Int)∧Hid ((s.data.toList.take k).all p=true)) (fun iv=>s.size - (intOf iv).toNat)
   case atStart=>exact ⟨0,Nat.zero_le _,rfl,rfl⟩
   case round =>
    obtain ⟨k,hk,rfl,hall⟩:=hrel
    by_cases hlt:k < s.size
    ·obtain ⟨b,hb⟩:∃ b,p s[k]=b:=⟨_,rfl⟩
     have HP:=yhide hb
     clear hb
     have CC:Hid (∀ W:World,Calls Tryz.prog g #[.int .u8 (s[k].toNat:Int)] W fun e w'=>e = .returned (.bool b)∧W=w'):=fun W=>by
      have:=CK.out s[k] W
      rwa [HP.out] at this
     cases b
     ·go_wp2_with (first | ((with_reducible refine (CC.out _).mono ?_);rintro e w1 ⟨rfl,rfl⟩) | fail)
      go_ret
      exact ⟨ybool (by unfold consB;rw [all_false hlt HP.out];simp),rfl⟩
     ·go_wp2_with (first | ((with_reducible refine (CC.out _).mono ?_);rintro e w1 ⟨rfl,rfl⟩) | fail)
      go_round
      case rel=>exact ⟨k + 1,by omega,by go_num,by unfold Hid;rw [all_take hlt,hall.out,HP.out];rfl⟩
      case measure=>simp [intOf];omega
    ·obtain rfl:k=s.size:=by omega
     go_wp2
     go_ret
     refine ⟨ybool ?_,rfl⟩
     have h3:=hall.out
     rw [List.take_of_length_le (by rw [Lib.size_eq];exact Nat.le_refl _)] at h3
     rw [Lib.size_eq] at hs hs1
     unfold consB
     rw [h3,decide_eq_true hs,decide_eq_true hs1];rfl
theorem wgood_any (s:ByteArray) (w:World):Calls Tryz.prog 56 #[.string s] w fun e w'=>e = .returned (.bool (goodW s.data.toList))∧w=w':=by
 have CC:=yhide (fun W=>consists_any (g:=96) isLetter_any (enters_of Tryz.func96 (by kernel_rfl) rfl) s W)
 go_enter Tryz.func56,Tryz.ntmps56
 go_wp2_with (first | (go_at_call 95;(with_reducible refine (CC.out _).mono ?_);rintro e w1 ⟨rfl,rfl⟩) | fail)
 go_ret
 exact ⟨rfl,rfl⟩
theorem num_head {s:ByteArray} (h:0 < s.size):decide (s.data.toList.head? ≠ some 48) = !((s[0].toNat:Int) == 48):=by
 obtain ⟨⟨l⟩⟩:=s
 cases l with
 | nil=>simp [ByteArray.size] at h
 | cons c l =>
   have e:(⟨⟨c :: l⟩⟩:ByteArray)[0]=c:=rfl
   rw [e]
   by_cases hc:c=48
   ·subst hc;rfl
   ·have h2:((c.toNat:Int) == 48)=false:=by
     rw [beq_eq_false_iff_ne]
     intro e2
     exact hc (UInt8.toNat_inj.1 (by simpa using (show c.toNat=48 by omega)))
    rw [h2]
    simp [hc]
theorem wnumber_any (s:ByteArray) (w:World):Calls Tryz.prog 141 #[.string s] w fun e w'=>e = .returned (.bool (numW s.data.toList))∧w=w':=by
 obtain ⟨b,hb⟩:∃ b,consB wdig s.data.toList=b:=⟨_,rfl⟩
 have CC:=yhide (fun W=>consists_any (g:=139) isDigit_any (enters_of Tryz.func139 (by kernel_rfl) rfl) s W)
 rw [hb] at CC
 have HB:=yhide hb
 clear hb
 cases b
 ·go_enter Tryz.func141,Tryz.ntmps141
  go_wp2_with (first | (go_at_call 95;(with_reducible refine (CC.out _).mono ?_);rintro e w1 ⟨rfl,rfl⟩) | fail)
  go_ret
  refine ⟨ybool ?_,rfl⟩
  have h:=HB.out
  unfold consB at h
  unfold numW
  rw [← Bool.and_assoc,← Bool.and_assoc,Bool.and_assoc (decide _) (decide _) (List.all _ _),h];rfl
 ·have hs:0 < s.size:=by
   have h:=HB.out
   unfold consB at h
   simp only [Bool.and_eq_true,decide_eq_true_eq] at h
   rw [Lib.size_eq];omega
  have HN:Hid (numW s.data.toList = !((s[0].toNat:Int) == 48)):=by
   unfold Hid
   rw [← num_head hs]
   have h:=HB.out
   unfold consB at h
   simp only [Bool.and_eq_true] at h
   unfold numW
   rw [h.1,h.2.1,h.2.2];rfl
  cases hc:((s[0].toNat:Int) == 48)
  ·rw [hc] at HN
   go_enter Tryz.func141,Tryz.ntmps141
   go_wp2_with (first | (go_at_call 95;(with_reducible refine (CC.out _).mono ?_);rintro e w1 ⟨rfl,rfl⟩) | fail)
   go_ret
   exact ⟨ybool (by rw [HN.out,bne,hc]),rfl⟩
  ·rw [hc] at HN
   go_enter Tryz.func141,Tryz.ntmps141
   go_wp2_with (first | (go_at_call 95;(with_reducible refine (CC.out _).mono ?_);rintro e w1 ⟨rfl,rfl⟩) | fail)
   go_ret
   exact ⟨ybool (by rw [HN.out,bne,hc]),rfl⟩
theorem ydrew_more {w W:World} {q k:Nat} (h:Hid (W=w.drewN q)):∃ q2,W.drewN k=w.drewN q2:=by
 rw [h.out];exact ⟨q + k,by simp [World.drewN,Nat.add_assoc]⟩
end Go.Proofs.YtfflmmbhpchloaaGreatDoor
end
