/- Each theorem here says its own conditions. -/
import Derived.Test.YtfflmmbhpchloaaGreatDoorGTpwc38
set_option maxRecDepth 100000
set_option maxHeartbeats 16000000
section
open Go.RowKit
open Go.Proofs.YtfflmmbhpchloaaGreatDoor.V
namespace Go.Proofs.YtfflmmbhpchloaaGreatDoor
theorem plainT {w:World} {ad:Addr} {v:Value} (h:w.cell? ad=some v):∃ b o,ad=⟨b,o,none⟩:=by
 obtain ⟨b,o,sp⟩:=ad
 cases sp with
 | none=>exact ⟨b,o,rfl⟩
 | some k =>
   unfold World.cell? at h
   split at h
   ·simp at h
   ·cases h
section
variable {base p g y N:Nat} {W W':World} {x:TPl} {T:Tb} {k:ByteArray} {r w:List ByteArray} {b0 o0 c n:Nat}
theorem tbad_base (hc:W.cell? ⟨b0,o0,none⟩=some (.string baseK)) (hl:b0 < W.heap.size) (h0:0 < n) (h3:n ≠ 3):Calls Tryz.prog 50 #[.pointer (some ⟨g,0,none⟩),.slice (some ⟨b0,o0,none⟩) n c] W (fun e w'=>e = .returned (.int .i64 2)∧Bel W w'):=by
 have CK:Hid (∀ W',Calls Tryz.prog 90 #[.string baseK] W' (RetB W' true)):=fun W'=>by
  have h1:=tkind_h (s:=baseK) W'
  rwa [show kindB baseK=true by decide +kernel] at h1
 have n0:((n:Int) == 0)=false:=by rw [beq_eq_false_iff_ne];omega
 have n3:((n:Int) == 3)=false:=by rw [beq_eq_false_iff_ne];omega
 have hlt:(0:Int) < (n:Int):=by omega
 unfold baseK at hc CK
 clear h3
 go_enter Tryz.func50,Tryz.ntmps50
 go_wp2_with (first | (go_at_call 90;(with_reducible refine (CK.out _).mono ?_);rintro e w2 ⟨rfl,hb2⟩) | fail)
 go_ret
 exact ⟨rfl,hb2⟩
theorem tbad_prefix (hc:W.cell? ⟨b0,o0,none⟩=some (.string prefixK)) (hl:b0 < W.heap.size) (h0:0 < n) (h4:n ≠ 4):Calls Tryz.prog 50 #[.pointer (some ⟨g,0,none⟩),.slice (some ⟨b0,o0,none⟩) n c] W (fun e w'=>e = .returned (.int .i64 2)∧Bel W w'):=by
 have CK:Hid (∀ W',Calls Tryz.prog 90 #[.string prefixK] W' (RetB W' true)):=fun W'=>by
  have h1:=tkind_h (s:=prefixK) W'
  rwa [show kindB prefixK=true by decide +kernel] at h1
 have n0:((n:Int) == 0)=false:=by rw [beq_eq_false_iff_ne];omega
 have n4:((n:Int) == 4)=false:=by rw [beq_eq_false_iff_ne];omega
 have hlt:(0:Int) < (n:Int):=by omega
 unfold prefixK at hc CK
 clear h4
 go_enter Tryz.func50,Tryz.ntmps50
 go_wp2_with (first | (go_at_call 90;(with_reducible refine (CK.out _).mono ?_);rintro e w2 ⟨rfl,hb2⟩) | fail)
 go_ret
 exact ⟨rfl,hb2⟩
theorem tbad_unit (hc:W.cell? ⟨b0,o0,none⟩=some (.string unitK)) (hl:b0 < W.heap.size) (h0:0 < n) (h4:n ≠ 4) (h5:n ≠ 5):Calls Tryz.prog 50 #[.pointer (some ⟨g,0,none⟩),.slice (some ⟨b0,o0,none⟩) n c] W (fun e w'=>e = .returned (.int .i64 2)∧Bel W w'):=by
 have CK:Hid (∀ W',Calls Tryz.prog 90 #[.string unitK] W' (RetB W' true)):=fun W'=>by
  have h1:=tkind_h (s:=unitK) W'
  rwa [show kindB unitK=true by decide +kernel] at h1
 have n0:((n:Int) == 0)=false:=by rw [beq_eq_false_iff_ne];omega
 have n4:((n:Int) == 4)=false:=by rw [beq_eq_false_iff_ne];omega
 have n5:((n:Int) == 5)=false:=by rw [beq_eq_false_iff_ne];omega
 have hlt:(0:Int) < (n:Int):=by omega
 unfold unitK at hc CK
 clear h4 h5
 go_enter Tryz.func50,Tryz.ntmps50
 go_wp2_with (first | (go_at_call 90;(with_reducible refine (CK.out _).mono ?_);rintro e w2 ⟨rfl,hb2⟩) | fail)
 go_ret
 exact ⟨rfl,hb2⟩
theorem tbad_quantity (hc:W.cell? ⟨b0,o0,none⟩=some (.string quantityK)) (hl:b0 < W.heap.size) (h0:0 < n) (h3:n ≠ 3):Calls Tryz.prog 50 #[.pointer (some ⟨g,0,none⟩),.slice (some ⟨b0,o0,none⟩) n c] W (fun e w'=>e = .returned (.int .i64 2)∧Bel W w'):=by
 have CK:Hid (∀ W',Calls Tryz.prog 90 #[.string quantityK] W' (RetB W' true)):=fun W'=>by
  have h1:=tkind_h (s:=quantityK) W'
  rwa [show kindB quantityK=true by decide +kernel] at h1
 have n0:((n:Int) == 0)=false:=by rw [beq_eq_false_iff_ne];omega
 have n3:((n:Int) == 3)=false:=by rw [beq_eq_false_iff_ne];omega
 have hlt:(0:Int) < (n:Int):=by omega
 unfold quantityK at hc CK
 clear h3
 go_enter Tryz.func50,Tryz.ntmps50
 go_wp2_with (first | (go_at_call 90;(with_reducible refine (CK.out _).mono ?_);rintro e w2 ⟨rfl,hb2⟩) | fail)
 go_ret
 exact ⟨rfl,hb2⟩
theorem tbad_alias (hc:W.cell? ⟨b0,o0,none⟩=some (.string aliasK)) (hl:b0 < W.heap.size) (h0:0 < n) (h3:n ≠ 3):Calls Tryz.prog 50 #[.pointer (some ⟨g,0,none⟩),.slice (some ⟨b0,o0,none⟩) n c] W (fun e w'=>e = .returned (.int .i64 2)∧Bel W w'):=by
 have CK:Hid (∀ W',Calls Tryz.prog 90 #[.string aliasK] W' (RetB W' true)):=fun W'=>by
  have h1:=tkind_h (s:=aliasK) W'
  rwa [show kindB aliasK=true by decide +kernel] at h1
 have n0:((n:Int) == 0)=false:=by rw [beq_eq_false_iff_ne];omega
 have n3:((n:Int) == 3)=false:=by rw [beq_eq_false_iff_ne];omega
 have hlt:(0:Int) < (n:Int):=by omega
 unfold aliasK at hc CK
 clear h3
 go_enter Tryz.func50,Tryz.ntmps50
 go_wp2_with (first | (go_at_call 90;(with_reducible refine (CK.out _).mono ?_);rintro e w2 ⟨rfl,hb2⟩) | fail)
 go_ret
 exact ⟨rfl,hb2⟩
theorem tother (hc:W.cell? ⟨b0,o0,none⟩=some (.string k)) (hl:b0 < W.heap.size) (h0:0 < n) (h1:k ≠ baseK) (h2:k ≠ prefixK) (h3:k ≠ unitK) (h4:k ≠ quantityK) (h5:k ≠ aliasK):Calls Tryz.prog 50 #[.pointer (some ⟨g,0,none⟩),.slice (some ⟨b0,o0,none⟩) n c] W (fun e w'=>e = .returned (.int .i64 0)∧Bel W w'):=by
 have CK:Hid (∀ W',Calls Tryz.prog 90 #[.string k] W' (RetB W' false)):=fun W'=>by
  have h1:=tkind_h (s:=k) W'
  rwa [show kindB k=false by unfold kindB;rw [decide_eq_false (by assumption),decide_eq_false h2,decide_eq_false h3,decide_eq_false h4,decide_eq_false h5];rfl] at h1
 have m1:(k.toList == [98,97,115,101])=false:=str_lit h1 rfl
 have m2:(k.toList == [112,114,101,102,105,120])=false:=str_lit h2 rfl
 have m3:(k.toList == [117,110,105,116])=false:=str_lit h3 rfl
 have m4:(k.toList == [113,117,97,110,116,105,116,121])=false:=str_lit h4 rfl
 have m5:(k.toList == [97,108,105,97,115])=false:=str_lit h5 rfl
 have n0:((n:Int) == 0)=false:=by rw [beq_eq_false_iff_ne];omega
 have hlt:(0:Int) < (n:Int):=by omega
 clear h1 h2 h3 h4 h5
 go_enter Tryz.func50,Tryz.ntmps50
 go_wp2_with (first | (go_at_call 90;(with_reducible refine (CK.out _).mono ?_);rintro e w2 ⟨rfl,hb2⟩) | fail)
 go_ret
 exact ⟨rfl,hb2⟩
theorem tnone {A:Option Addr}:Calls Tryz.prog 50 #[.pointer (some ⟨g,0,none⟩),.slice A 0 c] W (fun e w'=>e = .returned (.int .i64 0)∧Bel W w'):=by
 go_enter Tryz.func50,Tryz.ntmps50
 go_wp2
 go_ret
 exact ⟨rfl,Bel.refl W⟩
theorem trow_h {A:Option Addr} (h:LdM base W g p y x T) (ok:OkT N T) (hN:N≤900000) (hbase:base≤W.heap.size) (tb:Tabs W) (hw:RS W base A w) (hn:n=w.length) (hnc:n≤c) (hz:∀ s ∈ w,s.size≤2000000) :
 Calls Tryz.prog 50 #[.pointer (some ⟨g,0,none⟩),.slice A n c] W (StR base W g p y x (T.row w)):=by
 cases w with
 | nil =>
   obtain rfl:n=0:=hn
   exact tnone.mono fun e w' ⟨h1,h2⟩=>⟨h1,Stp.of_up h h2.hid⟩
 | cons k r =>
   obtain ⟨ad,rfl,hb0,hc⟩:=hw (by simp)
   have h0:=hc 0 k rfl
   obtain ⟨b0,o0,hbo⟩:=plainT h0
   rw [show ad.add 0=ad by simp [Addr.add]] at hbo
   subst hbo
   have cc:∀ (j:Nat) (s:ByteArray),(k :: r)[j]? = some s→W.cell? ⟨b0,o0 + j,none⟩=some (.string s):=fun j s hj=>by
    have h1:=hc j s hj
    have e:(⟨b0,o0,none⟩:Addr).add j=⟨b0,o0 + j,none⟩:=by unfold Addr.add;split <;> simp_all
    rwa [e] at h1
   have hk:W.cell? ⟨b0,o0,none⟩=some (.string k):=cc 0 k rfl
   have hl:b0 < W.heap.size:=Nat.lt_of_lt_of_le hb0 hbase
   have hn0:0 < n:=by rw [hn];exact Nat.succ_pos _
   have hnr:n=r.length + 1:=hn
   have bad:kindB k=true→(k=baseK→r.length ≠ 2)→(k=prefixK→r.length ≠ 3)→(k=unitK→r.length ≠ 3∧r.length ≠ 4)→(k=quantityK→r.length ≠ 2)→(k=aliasK→r.length ≠ 2)→T.row (k :: r) = .error 2:=fun hk h1 h2 h3 h4 h5=>by rw [row_bad h1 h2 h3 h4 h5,if_pos hk]
   have fin:T.row (k :: r) = .error 2→Calls Tryz.prog 50 #[.pointer (some ⟨g,0,none⟩),.slice (some ⟨b0,o0,none⟩) n c] W (fun e w'=>e = .returned (.int .i64 2)∧Bel W w')→Calls Tryz.prog 50 #[.pointer (some ⟨g,0,none⟩),.slice (some ⟨b0,o0,none⟩) n c] W (StR base W g p y x (T.row (k :: r))):=fun e1 hh=>by
    rw [e1];exact hh
   by_cases k1:k=baseK
   ·subst k1
    by_cases hr:r.length=2
    ·obtain ⟨a,b,rfl⟩:=len_two hr
     obtain rfl:n=3:=hnr
     exact trow_base h ok hN hbase tb ⟨hk,cc 1 a rfl,cc 2 b rfl⟩ hb0 hnc hz
    ·exact fin (bad (by decide +kernel) (fun _=>hr) (fun e=>absurd e (by decide)) (fun e=>absurd e (by decide)) (fun e=>absurd e (by decide)) (fun e=>absurd e (by decide))) (tbad_base hk hl hn0 (by omega))
   by_cases k2:k=prefixK
   ·subst k2
    by_cases hr:r.length=3
    ·obtain ⟨a,b,d,rfl⟩:=len_three hr
     obtain rfl:n=4:=hnr
     exact trow_prefix h ok hN hbase tb ⟨hk,cc 1 a rfl,cc 2 b rfl,cc 3 d rfl⟩ hb0 hnc hz
    ·exact fin (bad (by decide +kernel) (fun e=>absurd e (by decide)) (fun _=>hr) (fun e=>absurd e (by decide)) (fun e=>absurd e (by decide)) (fun e=>absurd e (by decide))) (tbad_prefix hk hl hn0 (by omega))
   by_cases k3:k=unitK
   ·subst k3
    by_cases hr:r.length=3
    ·obtain ⟨a,b,d,rfl⟩:=len_three hr
     obtain rfl:n=4:=hnr
     exact trow_unit4 h ok hN hbase tb ⟨hk,cc 1 a rfl,cc 2 b rfl,cc 3 d rfl⟩ hb0 hnc hz
    by_cases hr4:r.length=4
    ·obtain ⟨a,b,d,f,rfl⟩:=len_four hr4
     obtain rfl:n=5:=hnr
     exact trow_unit5 h ok hN hbase tb ⟨hk,cc 1 a rfl,cc 2 b rfl,cc 3 d rfl,cc 4 f rfl⟩ hb0 hnc hz
    ·exact fin (bad (by decide +kernel) (fun e=>absurd e (by decide)) (fun e=>absurd e (by decide)) (fun _=>⟨hr,hr4⟩) (fun e=>absurd e (by decide)) (fun e=>absurd e (by decide))) (tbad_unit hk hl hn0 (by omega) (by omega))
   by_cases k4:k=quantityK
   ·subst k4
    by_cases hr:r.length=2
    ·obtain ⟨a,b,rfl⟩:=len_two hr
     obtain rfl:n=3:=hnr
     exact trow_quantity h ok hN hbase tb ⟨hk,cc 1 a rfl,cc 2 b rfl⟩ hb0 hnc hz
    ·exact fin (bad (by decide +kernel) (fun e=>absurd e (by decide)) (fun e=>absurd e (by decide)) (fun e=>absurd e (by decide)) (fun _=>hr) (fun e=>absurd e (by decide))) (tbad_quantity hk hl hn0 (by omega))
   by_cases k5:k=aliasK
   ·subst k5
    by_cases hr:r.length=2
    ·obtain ⟨a,b,rfl⟩:=len_two hr
     obtain rfl:n=3:=hnr
     exact trow_alias h ok hN hbase tb ⟨hk,cc 1 a rfl,cc 2 b rfl⟩ hb0 hnc hz
    ·exact fin (bad (by decide +kernel) (fun e=>absurd e (by decide)) (fun e=>absurd e (by decide)) (fun e=>absurd e (by decide)) (fun e=>absurd e (by decide)) (fun _=>hr)) (tbad_alias hk hl hn0 (by omega))
   have e1:T.row (k :: r) = .ok T:=by
    rw [row_bad (fun e=>absurd e k1) (fun e=>absurd e k2) (fun e=>absurd e k3) (fun e=>absurd e k4) (fun e=>absurd e k5)]
    rw [if_neg]
    unfold kindB
    rw [decide_eq_false k1,decide_eq_false k2,decide_eq_false k3,decide_eq_false k4,decide_eq_false k5]
    decide
   rw [e1]
   exact (tother hk hl hn0 k1 k2 k3 k4 k5).mono fun e w' ⟨h1,h2⟩=>⟨h1,Stp.of_up h h2.hid⟩
end
theorem okT_nil (n:Nat):OkT n Tb.nil:=⟨fun s e h=>(by cases h),fun s r h=>(by cases h),by decide,Nat.zero_le _,Nat.zero_le _,Nat.zero_le _,Nat.zero_le _⟩
theorem tnew_h (W:World):Calls Tryz.prog 49 #[] W fun e w'=>∃ g p y x,e = .returned (.pointer (some ⟨g,0,none⟩))∧LdM W.heap.size w' g p y x Tb.nil∧Bel W w':=by
 have CQ:=khide qnew_h
 have hmm:=@run_makeMap Tryz.prog
 go_enter Tryz.func49,Tryz.ntmps49
 go_wp2_with (first | (go_at_call 84;(with_reducible refine (CQ.out _).mono ?_);rintro e w2 ⟨p2,b4,rfl,hq,hp2,hb4,hb⟩) | fail)
 clear hmm
 have al:∀ {V:World} {b:Nat} {l:List (ByteArray × Value)} (_:MapV V b l) (o:Obj),MapV (V.alloc o) b l:=fun h o=>h.up ((Below.refl _ _).alloc (Nat.le_refl _) o)
 have e1:(W.alloc (.map #[] 0)).heap.size=W.heap.size + 1:=by simp
 have e2:((W.alloc (.map #[] 0)).alloc (.map #[] 0)).heap.size=W.heap.size + 1 + 1:=by simp
 have e3:(((W.alloc (.map #[] 0)).alloc (.map #[] 0)).alloc (.map #[] 0)).heap.size=W.heap.size + 1 + 1 + 1:=by simp
 have m1:=(al (al (mapV_new W) (.map #[] 0)) (.map #[] 0)).up hb
 have m2:=(al (mapV_new (W.alloc (.map #[] 0))) (.map #[] 0)).up hb
 have m3:=(mapV_new ((W.alloc (.map #[] 0)).alloc (.map #[] 0))).up hb
 rw [e1] at m2
 rw [e2] at m3
 have hbw:Bel W w2:=((((Bel.refl W).al _).al _).al _).up hb
 have hsz:W.heap.size + 1 + 1 + 1≤w2.heap.size:=by rw [← e3];exact hb.out.size
 have hq2:=hq.hb
 have hq3:=hq.hp
 rw [e3] at hq2 hq3
 clear hb e1 e2 e3
 obtain ⟨o1,ho1⟩:∃ o,o=Obj.cells #[.slice none 0 0,.slice none 0 0,.map (some W.heap.size),.map (some (W.heap.size + 1)),.map (some (W.heap.size + 1 + 1)),.pointer (some ⟨p2,0,none⟩)] 89:=⟨_,rfl⟩
 obtain ⟨o3,ho3⟩:∃ o,o=Obj.cells #[.pointer (some ⟨w2.heap.size,0,none⟩),.int .i64 0,.map (some (w2.heap.size + 1))] 124:=⟨_,rfl⟩
 refine vname_end ?_
 intro w3 hw3
 have hw:w3=((w2.alloc o1).alloc (.map #[] 0)).alloc o3:=by rw [hw3,ho1,ho3]
 clear hw3
 have f1:(w2.alloc o1).heap.size=w2.heap.size + 1:=by simp
 have f2:((w2.alloc o1).alloc (.map #[] 0)).heap.size=w2.heap.size + 1 + 1:=by simp
 have B1:w3.heap[w2.heap.size]? = some o1:=by
  rw [hw]
  exact (Below.heap_alloc _ _ _ (by rw [f2];omega)).trans ((Below.heap_alloc _ _ _ (by rw [f1];omega)).trans (heap_alloc_new w2 o1))
 have B2:w3.heap[w2.heap.size + 1 + 1]? = some o3:=by
  have h1:=heap_alloc_new ((w2.alloc o1).alloc (.map #[] 0)) o3
  rw [f2] at h1
  rw [hw];exact h1
 have M4:MapV w3 (w2.heap.size + 1) []:=by
  have h1:=al (mapV_new (w2.alloc o1)) o3
  rw [f1] at h1
  rw [hw];exact h1
 have HB:Hid (Below w2.heap.size w2 w3):=by rw [hw];exact Bel.hid ((((Bel.refl w2).al _).al _).al _)
 clear hw f1 f2
 refine bodyPost_ret (v:=.pointer (some ⟨w2.heap.size + 1 + 1,0,none⟩)) (by simp [results,Tryz.results49,go_sem]) rfl ?_
 refine ⟨w2.heap.size + 1 + 1,w2.heap.size,w2.heap.size + 1,⟨.slice none 0 0,.slice none 0 0,W.heap.size,W.heap.size + 1,W.heap.size + 1 + 1,p2,b4,.slice none 0 0⟩,rfl,⟨by rw [B2,ho3];rfl,by omega,by omega,⟨by rw [B1,ho1],by omega,?_,Row.nil _ _,Row.nil _ _,⟨[],m1.up HB,Rel.nil⟩,⟨[],m2.up HB,Rel.nil⟩,m3.up HB,?_,?_,List.nodup_nil⟩,⟨[],M4,Rel.nil⟩,?_⟩,hbw.up HB⟩
 ·intro b hb
  simp only [List.mem_cons,List.mem_nil_iff,or_false] at hb
  rcases hb with rfl | rfl | rfl | rfl | rfl <;> omega
 ·have t:=Turn.of HB
  exact ⟨(t.block p2 hp2 List.not_mem_nil).trans hq.blk,Nat.le_trans (show W.heap.size≤W.heap.size + 1 + 1 + 1 by omega) hq3,Nat.le_trans (show W.heap.size≤W.heap.size + 1 + 1 + 1 by omega) hq2,Row.nil _ _,(hq.turn t List.not_mem_nil List.not_mem_nil (fun _ _=>List.not_mem_nil)).map,rfl,fun _=>rfl⟩
 ·simp;omega
 ·simp;omega
end Go.Proofs.YtfflmmbhpchloaaGreatDoor
end
section
open Go.RowKit
namespace Go.Proofs.YtfflmmbhpchloaaGreatDoor
theorem rows_cons (x:Int × List ByteArray) (l:List (Int × List ByteArray)) (T:Tb):T.rows (x :: l)=match T.row x.2 with
  | .error v=>.error (x.1,v)
  | .ok T'=>T'.rows l:=rfl
end Go.Proofs.YtfflmmbhpchloaaGreatDoor
end
section
open Go.RowKit
open Go.Proofs.YtfflmmbhpchloaaGreatDoor.V
namespace Go.Proofs.YtfflmmbhpchloaaGreatDoor
theorem part_nz {T:Tb} {s:ByteArray} {v:Int} (h:T.part s = .error v):v ≠ 0:=by rcases part_codes h with h | h <;> omega
theorem define_nz {T:Tb} {s:ByteArray} {e:Ent} {p:PL} {v:Int} (h:T.define s e p = .error v):v ≠ 0:=by
 unfold Tb.define at h
 split at h
 ·injection h with h;omega
 ·cases hv:T.vec (p.1,p.2.1) with
  | none=>rw [hv] at h;injection h with h;omega
  | some u =>
    rw [hv] at h
    dsimp only at h
    split at h
    ·injection h with h;omega
    ·cases h
theorem row_nz {T:Tb} {w:List ByteArray} {v:Int} (h:T.row w = .error v):v ≠ 0:=by
 unfold Tb.row at h
 cases w with
 | nil=>cases h
 | cons k r =>
   dsimp only at h
   split at h
   ·unfold Tb.addBase at h
    split at h
    ·injection h with h;rw [← h];assumption
    ·split at h
     ·injection h with h;omega
     ·split at h
      ·injection h with h;omega
      ·split at h
       ·injection h with h;omega
       ·cases h
   ·split at h
    ·unfold Tb.addPrefix at h
     split at h
     ·injection h with h;omega
     ·split at h
      ·injection h with h;omega
      ·split at h
       ·cases h
       ·injection h with h;omega
    ·split at h
     ·unfold Tb.addUnit at h
      split at h
      ·injection h with h;rw [← h];assumption
      ·split at h
       ·injection h with h;omega
       ·split at h
        ·injection h with h;omega
        ·split at h
         ·rename_i hp;injection h with h;rw [← h];exact part_nz hp
         ·split at h
          ·exact define_nz h
          ·split at h
           ·injection h with h;omega
           ·exact define_nz h
     ·split at h
      ·unfold Tb.addQuantity at h
       split at h
       ·injection h with h;omega
       ·split at h
        ·rename_i hp;injection h with h;rw [← h];exact part_nz hp
        ·split at h
         ·injection h with h;omega
         ·split at h
          ·injection h with h;omega
          ·cases h
      ·split at h
       ·unfold Tb.addAlias at h
        split at h
        ·injection h with h;rw [← h];assumption
        ·split at h
         ·rename_i hp;injection h with h;rw [← h];exact part_nz hp
         ·cases h
       ·split at h
        ·injection h with h;omega
        ·cases h
def LW (w:World) (B:Nat) (A:Option Addr) (rs:List (Int × List ByteArray)):Prop :=
 0 < rs.length → ∃ g o:Nat,A=some ⟨g,o,none⟩∧g < B ∧ ∀ j r,rs[j]? = some r → ∃ A' c,w.cell? ⟨g,o + j * 2,none⟩=some (.int .i64 r.1)∧w.cell? ⟨g,o + j * 2 + 1,none⟩=some (.slice A' r.2.length c)∧r.2.length≤c∧RS w B A' r.2
theorem LW.keep {w w':World} {B:Nat} {A:Option Addr} {rs:List (Int × List ByteArray)} (h:LW w B A rs) (hk:∀ p:Addr,p.block < B→w'.cell? p=w.cell? p):LW w' B A rs:=fun hn=>by
 obtain ⟨g,o,e,hb,hc⟩:=h hn
 refine ⟨g,o,e,hb,fun j r hj=>?_⟩
 obtain ⟨A',c,h1,h2,h3,h4⟩:=hc j r hj
 exact ⟨A',c,(hk _ hb).trans h1,(hk _ hb).trans h2,h3,h4.keep hk⟩
def LoadR (W:World) (res:Except (Int × Int) Tb) (e:Ending) (w':World):Prop:=match res with
 | .error z=>e = .returned (.tuple #[.pointer none,.int .i64 z.1,.int .i64 z.2])∧Bel W w'
 | .ok T=>∃ p x,e = .returned (.tuple #[.pointer (some ⟨p,0,none⟩),.int .i64 0,.int .i64 0])∧TabM W.heap.size w' p x T∧Bel W w'
theorem drop_row {rs:List (Int × List ByteArray)} {k:Nat} {r:Int × List ByteArray} (h:rs[k]? = some r) (T:Tb):T.rows (rs.drop k)=match T.row r.2 with
  | .error v=>.error (r.1,v)
  | .ok T'=>T'.rows (rs.drop (k + 1)):=by
 have hk:=(List.getElem?_eq_some_iff.1 h).1
 rw [List.drop_eq_getElem_cons hk,(List.getElem?_eq_some_iff.1 h).2,rows_cons]
 all_goals (cases T.row r.2 <;> rfl)
section
variable {W:World} {A:Option Addr} {n c:Nat} {rs:List (Int × List ByteArray)}
theorem tload_h (h:LW W W.heap.size A rs) (hn:n=rs.length) (hN:n≤900000) (hz:∀ r ∈ rs,∀ s ∈ r.2,s.size≤2000000) (tb:Tabs W) :
 Calls Tryz.prog 25 #[.slice A n c] W (LoadR W (Tb.nil.rows rs)):=by
 have HN:=khide hn
 have HZ:=khide hz
 have HTB:=khide tb
 have HH:=khide h
 obtain ⟨res,hres⟩:∃ z,Tb.nil.rows rs=z:=⟨_,rfl⟩
 rw [hres]
 have HRES:=khide hres
 have CN:=khide (tnew_h W)
 clear h hn hz tb hres
 go_enter Tryz.func25,Tryz.ntmps25
 go_wp2_with (first | (go_at_call 49;(with_reducible refine CN.out.mono ?_);rintro e w1 ⟨g,p,y,x0,rfl,hl0,hb1⟩) | fail)
 have HL0:=khide hl0
 have HB1:=khide hb1
 clear hl0 hb1
 go_loopw [12] (fun iv wr=>∃ (k:Nat) (x:TPl) (T:Tb),k≤n∧iv = .int .i64 (k:Int)∧Hid (LdM W.heap.size wr g p y x T)∧Hid (OkT k T)∧Hid (T.rows (rs.drop k)=res)∧Hid (Below W.heap.size W wr)) (fun iv _=>n - (intOf iv).toNat)
 case atStart=>exact ⟨0,x0,Tb.nil,Nat.zero_le _,rfl,HL0,okT_nil 0,HRES,HB1.out.hid⟩
 case round =>
  obtain ⟨k,x,T,hk,rfl,HL,HO,HR,HW⟩:=hrel
  by_cases hlt:k < n
  ·obtain ⟨r,hr⟩:∃ r,rs[k]? = some r:=⟨rs[k]'(by rw [← HN.out];exact hlt),List.getElem?_eq_getElem (by rw [← HN.out];exact hlt)⟩
   have hwr:LW wr W.heap.size A rs:=HH.out.keep fun q hq=>HW.out.cell hq
   obtain ⟨gr,og,rfl,hgr,hcs⟩:=hwr (by rw [← HN.out];omega)
   obtain ⟨A2,c2,hc0,hc1,hmc,hss⟩:=hcs k r hr
   have hrm:r ∈ rs:=List.mem_of_getElem? hr
   have HDR:=khide (drop_row hr T)
   obtain ⟨r1,r2⟩:=r
   obtain ⟨m,hm⟩:∃ m,r2.length=m:=⟨_,rfl⟩
   have hc0':wr.cell? ⟨gr,og + k * 2,none⟩=some (.int .i64 r1):=hc0
   have hc1':wr.cell? ⟨gr,og + k * 2 + 1,none⟩=some (.slice A2 m c2):=by rw [← hm];exact hc1
   have HGL:gr < wr.heap.size:=Nat.lt_of_lt_of_le hgr HW.out.size
   have CB:Hid (∀ W',Bel wr W'→Calls Tryz.prog 50 #[.pointer (some ⟨g,0,none⟩),.slice A2 m c2] W' (StR W.heap.size W' g p y x (T.row r2))):=fun W' hb =>
    trow_h (HL.out.up hb.hid) HO.out (by omega) (Nat.le_trans HW.out.size hb.hid.out.size) (HTB.out.up ((Bel.of HW).up hb.hid).hid) (hss.keep fun q hq=>hb.hid.out.cell (Nat.lt_of_lt_of_le hq HW.out.size)) hm.symm (by rw [← hm];exact hmc) (HZ.out _ hrm)
   have HBW:Hid (W.heap.size≤wr.heap.size):=HW.out.size
   clear hwr hcs hc0 hc1 hmc hss hrm hr hm hgr
   cases hrow:T.row r2 with
   | error v =>
     have hv:=row_nz hrow
     have e1:res = .error (r1,v):=by rw [← HR.out,HDR.out,hrow]
     rw [hrow] at CB
     rw [e1]
     have CB2:Hid (∀ W',Bel wr W'→Calls Tryz.prog 50 #[.pointer (some ⟨g,0,none⟩),.slice A2 m c2] W' (fun e w'=>e = .returned (.int .i64 v)∧Bel W' w')):=CB
     have d0:(v != 0)=true:=by rw [bne_iff_ne];exact hv
     have d1:(v == 0)=false:=by rw [beq_eq_false_iff_ne];exact hv
     clear CB hrow hv e1 HDR
     go_upto_region 5 with fail
     refine kwp_named ?_
     intro w2 hw2
     have HX:At w2 wr.heap.size [.int .i64 r1,.slice A2 m c2]:=by rw [hw2];exact at_new0 _ _ _
     have HB2:Bel wr w2:=by rw [hw2];exact (Bel.refl wr).al _
     obtain ⟨qr,hqr⟩:∃ z,z=wr.heap.size:=⟨_,rfl⟩
     rw [← hqr] at HX ⊢
     clear hw2 hqr hc0' hc1' HGL
     have x0:=HX.c0;have x1:=HX.c1;have xl:=HX.lt
     go_upto_region 7 with (first | (go_at_call 50;(with_reducible refine (CB2.out _ HB2).mono ?_);rintro e w3 ⟨rfl,hb3⟩;replace HX:=HX.up hb3.hid;replace HB2:=HB2.up hb3.hid;clear x0 x1 xl;have x0:=HX.c0;have x1:=HX.c1;have xl:=HX.lt) | fail)
     go_quiet (fail)
     go_wp2_with fail
     refine vname_end ?_
     intro w5 hw5
     have HB5:Bel wr w5:=by rw [hw5];exact ybelow_drewN HB2 _
     refine bodyPost_ret (v:=.tuple #[.pointer none,.int .i64 r1,.int .i64 v]) (by simp [results,Tryz.results25,go_sem]) rfl ?_
     exact ⟨rfl,(Bel.of HW).up HB5.hid⟩
   | ok T' =>
     rw [hrow] at CB
     have HO2:=khide (okT_row HO.out hrow)
     have e1:Hid (T'.rows (rs.drop (k + 1))=res):=by rw [← HR.out,HDR.out,hrow];rfl
     have CB2:Hid (∀ W',Bel wr W'→Calls Tryz.prog 50 #[.pointer (some ⟨g,0,none⟩),.slice A2 m c2] W' (fun e w'=>e = .returned (.int .i64 0)∧Stp W.heap.size W' g p y x T' w')):=CB
     clear CB hrow HDR
     go_upto_region 5 with fail
     refine kwp_named ?_
     intro w2 hw2
     have HX:At w2 wr.heap.size [.int .i64 r1,.slice A2 m c2]:=by rw [hw2];exact at_new0 _ _ _
     have HB2:Bel wr w2:=by rw [hw2];exact (Bel.refl wr).al _
     obtain ⟨qr,hqr⟩:∃ z,z=wr.heap.size:=⟨_,rfl⟩
     rw [← hqr] at HX ⊢
     clear hw2 hqr hc0' hc1' HGL
     have x0:=HX.c0;have x1:=HX.c1;have xl:=HX.lt
     go_wp2_with (first | (go_at_call 50;(with_reducible refine (CB2.out _ HB2).mono ?_);rintro e w3 ⟨rfl,hst⟩) | fail)
     have HBL:Hid (Below W.heap.size W w3):=HW.out.trans ((HB2.hid.out.mono HBW.out).trans (hst.below (HL.out.up HB2.hid) (Nat.le_trans HBW.out HB2.sz)))
     obtain ⟨x',hl',_,_,_⟩:=hst
     have HL':=khide hl'
     clear hl' x0 x1 xl HX HB2
     go_roundw
     case rel=>exact ⟨k + 1,x',T',by omega,by go_num,HL',HO2,e1,HBL⟩
     case measure=>simp [intOf];omega
  ·obtain rfl:k=n:=by omega
   have e1:res = .ok T:=by
    have h1:=HR.out
    rw [List.drop_eq_nil_of_le (by rw [HN.out];exact Nat.le_refl _)] at h1
    exact h1.symm
   have HE1:=khide e1
   have g0:=HL.out.c0;have gl:=HL.out.lt
   clear e1
   go_wp2_with fail
   refine bodyPost_ret (v:=.tuple #[.pointer (some ⟨p,0,none⟩),.int .i64 0,.int .i64 0]) (by simp [results,Tryz.results25,go_sem]) rfl ?_
   show LoadR W res _ _
   rw [HE1.out]
   exact ⟨p,x,rfl,HL.out.tab,Bel.of HW⟩
end
end Go.Proofs.YtfflmmbhpchloaaGreatDoor
end
section
namespace Go.Proofs.YtfflmmbhpchloaaGreatDoor.E
open Go.RowKit Go.Shelf
def SeqAt (F:Fence) (n:Nat) (P:Program) (g:Nat) (lb:Array Value) (B:Nat) (Kp:World→World→Prop) (xs:List ByteArray) (w:World):Prop :=
 ∀ (l:Nat) (J Jx:Nat→World→Prop) (W:World),Kp w W→(∀ k V v,J k V→J k (V.setCell ⟨B,0,none⟩ v)) →
  (∀ k x V,J k V→xs[k]? = some x→YieldAt F (n - 1) P l #[.string x] V fun e V'=>(e = .returned (.bool true)∧J (k + 1) V'∧Kp V V') ∨ (e = .returned (.bool false)∧Jx (k + 1) V')) →
  J 0 W→CallsIn F n P g (#[.func (.yield l) #[] #[]] ++ lb) W fun e W'=>(∃ v,e = .returned v)∧(J xs.length W' ∨ ∃ k,k≤xs.length∧Jx k W')
def AtPost (Kp:World→World→Prop) (I:Nat→World→Prop) (Ix:Code→Nat→World→Prop) (k:Nat) (V:World):Exit→Act→World→Prop
 | .normal,_,V'=>KeepsOthers V V'∧Kp V V'∧I k V'
 | .ret,_,V'=>KeepsOthers V V'∧Ix .ret k V'
 | .exit id,_,V'=>KeepsOthers V V'∧Ix (.exit id) k V'
 | .goto t,_,V'=>KeepsOthers V V'∧Ix (.goto t) k V'
 | .panic _,_,_=>False
 | .outgrown,_,_=>False
def Live (d:Nat) (r:Loop) (V:World):Prop:=V.heap[d + 1]? = some (.loop r)∧V.heap[d]? = some (.deferred (some []))
section
variable {d:Nat} {r r':Loop} {V V':World} {P:Program} {I:Nat→World→Prop} {k:Nat}
theorem Live.lt (h:Live d r V):d + 1 < V.heap.size:=(Array.getElem?_eq_some_iff.1 h.1).1
theorem Live.put (h:Live d r V) (r':Loop):Live d r' (V.putObj (d + 1) (.loop r')):=⟨World.putObj_heap_same h.lt,(World.putObj_heap_other (by omega)).trans h.2⟩
theorem Live.keep (h:Live d r V) (hk:KeepsOthers V V'):Live d r V':=⟨hk.same _ _ h.1 rfl,hk.same _ _ h.2 rfl⟩
theorem Live.set (h:Live d r V) {B:Nat} (hB:B < d) (v:Value):Live d r (V.setCell ⟨B,0,none⟩ v) :=
 ⟨(Below.heap_setCell _ _ _ _ (by show d + 1 ≠ B;omega)).trans h.1,(Below.heap_setCell _ _ _ _ (by show d ≠ B;omega)).trans h.2⟩
theorem OwnFrom.live {w:World} (hI:OwnFrom d I) (h:Live d r V) (hi:I k V) (r':Loop):I k (V.putObj (d + 1) (.loop r')):=OwnFrom.putObj hI _ hi (by omega) h.1 rfl
theorem Live.fin (h:Live d { r with state:=.busy } V) (jump:Option Code) :
 (Instr.endRound (d + 1) jump).run P V = .ok (.bool jump.isNone) (V.putObj (d + 1) (.loop { r with state:=if jump.isNone then .ready else .done,pending:=jump })):=by
 have h2:=run_endRound (P:=P) (r:={ r with state:=.busy }) jump h.1
 exact h2
end
variable {F:Fence} {n:Nat} {P:Program}
theorem wpIn_range_at {g:Operand} {ps:Array Tmp} {assign body:Code} {Q:Exit→Act→World→Prop} {a:Act} {w:World}
 (hro:F.round=none) (h1:1≤n) {gf:Nat} {lb:Array Value} (hg:a.eval g = .func (.func gf) #[] lb) (hFg:F.fn gf) (eg:∀ args w,(callFunc gf args).run P w = .ok (.enter gf args) w)
 {B:Nat} (hB:B < w.heap.size) {Kp:World→World→Prop} {xs:List ByteArray} (hseq:SeqAt F (n - 1) P gf lb B Kp xs w) (hps:ps.size=1)
 (hKr:∀ V V':World,(∀ i,i < w.heap.size→V'.heap[i]? = V.heap[i]?)→Kp V V') (hKt:∀ {A C D:World},Kp A C→Kp C D→Kp A D)
 (I:Nat→World→Prop) (Ix:Code→Nat→World→Prop) (hI:OwnFrom w.heap.size I) (hIx:∀ c,OwnFrom w.heap.size (Ix c)) (hIB:∀ k V v,I k V→I k (V.setCell ⟨B,0,none⟩ v)) (h0:I 0 w) (a₁:ByteArray→Act)
 (hassign:∀ (l:Nat) (x:ByteArray) (V:World) (K:Act→World→Prop),K (a₁ x) V →
   assign.wpIn (F.inRound l) (n - 1 - 1) P (Exit.then K (fun _ _ _=>False)) { tmps:=(ps.zip #[.string x]).foldl (fun t (p,v)=>t.setIfInBounds p v) a.tmps,defers:=[] } V)
 (hbody:∀ (l k:Nat) (x:ByteArray) (V:World),I k V→xs[k]? = some x→w.heap.size < V.heap.size→body.wpIn (F.inRound l) (n - 1 - 1) P (AtPost Kp I Ix (k + 1) V) (a₁ x) V)
 (hdone:∀ (D:Nat) (V:World),w.heap.size≤D→I xs.length V→V.heap[D]? = some (.deferred (some []))→Q .normal { a with defers:={ target:=.collected D,args:=#[] } :: a.defers } V)
 (hstop:∀ (D:Nat) (c:Code) (k:Nat) (V:World),w.heap.size≤D→Ix c k V→V.heap[D]? = some (.deferred (some []))→c.wpIn F n P Q { a with defers:={ target:=.collected D,args:=#[] } :: a.defers } V) :
 (Code.rangeFunc g ps assign body).wpIn F n P Q a w:=by
 refine wpIn_rangeFunc fun fn hfn=>?_
 rw [hro]
 obtain ⟨r0,hr0⟩:∃ r0:Loop,r0={ state:=.ready,pending:=none,fn,tmps:=a.tmps,params:=ps,assign,body,defers:=w.heap.size }:=⟨_,rfl⟩
 obtain ⟨W1,hW1⟩:∃ W1,W1=(w.alloc (.deferred (some []))).alloc (.loop r0):=⟨_,rfl⟩
 have hlow:∀ i,i < w.heap.size→W1.heap[i]? = w.heap[i]?:=fun i hi=>by
  rw [hW1];exact (Below.heap_alloc _ _ i (by simp;omega)).trans (Below.heap_alloc _ _ i hi)
 have hl1:Live w.heap.size r0 W1:=by
  rw [hW1]
  refine ⟨?_,(Below.heap_alloc _ _ _ (by simp)).trans (World.alloc_heap_new w _)⟩
  have:=World.alloc_heap_new (w.alloc (.deferred (some []))) (.loop r0)
  rwa [World.size_alloc] at this
 have hI1:I 0 W1:=by rw [hW1];exact hI.alloc _ (hI.alloc _ h0)
 refine ⟨w.heap.size + 1,[{ target:=.collected w.heap.size,args:=#[] }],W1,{ target:=.fn (.func gf) lb,args:=#[.func (.yield (w.heap.size + 1)) #[] #[]] },W1,gf,
  #[.func (.yield (w.heap.size + 1)) #[] #[]] ++ lb,W1,?_,?_,?_,?_,fun _=>h1,?_⟩
 ·rw [hW1,hr0];exact run_enterLoop_outer _ _ _ _ _
 ·simp only [resolve,hg]
  simp [go_sem]
 ·intro f' hf';simp [Target.leads] at hf';subst hf';exact hFg
 ·simp [invoke,go_sem,eg]
 have hput:∀ (V:World) (o:Obj) (i:Nat),i < w.heap.size→(V.putObj (w.heap.size + 1) o).heap[i]? = V.heap[i]?:=fun V o i hi=>World.putObj_heap_other (by omega)
 refine (hseq (w.heap.size + 1) (fun k V=>I k V∧Live w.heap.size r0 V) (fun k V=>∃ c,Ix c k V∧Live w.heap.size { r0 with state:=.done,pending:=some c } V) W1 (hKr _ _ hlow)
  (fun k V v h=>⟨hIB k V v h.1,h.2.set hB v⟩) ?_ ⟨hI1,hl1⟩).mono ?_
 ·rintro k x V ⟨hi,hl⟩ hx
  have hy:=run_yield (P:=P) (args:=#[.string x]) hl.1 (by rw [hr0];exact hps.symm)
  refine ⟨_,_,_,_,hy,roundIn_of_wpIn (by rw [hr0];exact hfn) ?_⟩
  have ha:=hassign (w.heap.size + 1) x V (fun a₁ w₁=>∃ w₂,(Instr.beginRound (w.heap.size + 1)).run P w₁ = .ok () w₂∧body.wpIn (F.inRound (w.heap.size + 1)) (n - 1 - 1) P (roundPost P (w.heap.size + 1) fun e V'=>(e = .returned (.bool true)∧(I (k + 1) V'∧Live w.heap.size r0 V')∧Kp V V') ∨ (e = .returned (.bool false) ∧ ∃ c,Ix c (k + 1) V'∧Live w.heap.size { r0 with state:=.done,pending:=some c } V')) a₁ w₂)
   ⟨_,run_beginRound hl.1 (by rw [hr0]),?_⟩
  ·rw [hr0] at ha ⊢;exact ha
  ·have hlb:=hl.put { r0 with state:=.busy }
   have hkb:Kp V (V.putObj (w.heap.size + 1) (.loop { r0 with state:=.busy })):=hKr _ _ (hput V _)
   refine wpIn_mono (hbody _ k x _ (OwnFrom.live (w:=w) hI hl hi _) hx (by have:=hlb.lt;omega)) ?_
   rintro e a3 V3 hp
   have out:∀ (c:Code),KeepsOthers (V.putObj (w.heap.size + 1) (.loop { r0 with state:=.busy })) V3→Ix c (k + 1) V3 → ∃ v V4,(Instr.endRound (w.heap.size + 1) (some c)).run P V3 = .ok v V4∧((Ending.returned v = .returned (.bool true)∧(I (k + 1) V4∧Live w.heap.size r0 V4)∧Kp V V4) ∨ (Ending.returned v = .returned (.bool false) ∧ ∃ c,Ix c (k + 1) V4∧Live w.heap.size { r0 with state:=.done,pending:=some c } V4)):=fun c hk hi3=>by
    have hl3:=hlb.keep hk
    exact ⟨_,_,hl3.fin (some c),.inr ⟨rfl,c,OwnFrom.live (w:=w) (hIx c) hl3 hi3 _,hl3.put _⟩⟩
   cases e with
   | normal =>
     obtain ⟨hk3,hkp3,hi3⟩:=hp
     have hl3:=hlb.keep hk3
     refine ⟨_,_,hl3.fin none,.inl ⟨rfl,⟨OwnFrom.live (w:=w) hI hl3 hi3 _,?_⟩,hKt (hKt hkb hkp3) (hKr _ _ (hput V3 _))⟩⟩
     have:=hl3.put r0
     rw [hr0] at this ⊢
     exact this
   | ret=>exact out _ hp.1 hp.2
   | exit id=>exact out _ hp.1 hp.2
   | goto t=>exact out _ hp.1 hp.2
   | panic ch=>exact hp.elim
   | outgrown=>exact hp.elim
 ·rintro e W2 ⟨⟨v,rfl⟩,(⟨hi,hl⟩ | ⟨k,_,c,hi,hl⟩)⟩
  ·refine ⟨none,_,?_,hdone w.heap.size _ (Nat.le_refl _) (OwnFrom.live (w:=w) hI hl hi { r0 with state:=.exhausted }) ((World.putObj_heap_other (by omega)).trans hl.2)⟩
   have:=run_endLoop (P:=P) hl.1 (by rw [hr0];simp)
   rw [this,hr0]
  ·refine ⟨some c,_,?_,hstop w.heap.size c k _ (Nat.le_refl _) (OwnFrom.live (w:=w) (hIx c) hl hi { { r0 with state:=.done,pending:=some c } with state:=.exhausted }) ((World.putObj_heap_other (by omega)).trans hl.2)⟩
   exact run_endLoop (P:=P) hl.1 (by simp)
end Go.Proofs.YtfflmmbhpchloaaGreatDoor.E
end
section
namespace Go.Proofs
open Go.Shelf Go.RowKit
end Go.Proofs
end
