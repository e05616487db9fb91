/- Each theorem here says its own conditions. -/
import Derived.Test.YtfflmmbhpchloaaGreatDoorTau
set_option maxRecDepth 100000
set_option maxHeartbeats 16000000
section
open Go.RowKit
open Go.Proofs.YtfflmmbhpchloaaGreatDoor.V
namespace Go.Proofs.YtfflmmbhpchloaaGreatDoor
section
variable {n:Nat} {T T':Tb} {s f id b x:ByteArray} {o:List ByteArray} {r:Rat}
theorem frac_bd (h:fracD s=some r):Bd r 101:=by
 unfold fracD at h
 split at h
 ·rename_i hs
  exact (qparse_d hs).1 r h
 ·cases h
theorem sign_pos {r:Rat} (h:¬ r.num.sign≤0):0 < r:=by
 have h1:0 < r.num:=Int.sign_pos_iff.1 (by omega)
 have h2:0≤r:=Rat.num_nonneg.1 (by omega)
 have h3:r ≠ 0:=fun e=>by rw [e] at h1;exact absurd h1 (by decide)
 exact Rat.not_le.1 (fun h4=>h3 (Rat.le_antisymm h4 h2))
theorem okT_unit (h:OkT n T) (hr:T.addUnit s f id o = .ok T'):OkT (n + 1) T':=by
 unfold Tb.addUnit at hr
 split at hr
 ·cases hr
 ·cases hf:fracD f with
  | none=>rw [hf] at hr;cases hr
  | some r =>
    rw [hf] at hr
    dsimp only at hr
    split at hr
    ·cases hr
    ·rename_i hsg
     cases hp:T.part id with
     | error v=>rw [hp] at hr;cases hr
     | ok p =>
       rw [hp] at hr
       dsimp only at hr
       cases o with
       | nil=>exact okT_define h (part_ok hp) ⟨sign_pos hsg,frac_bd hf,bds.2.2.2⟩ hr
       | cons t o =>
         dsimp only at hr
         cases hx:fracD t with
         | none=>rw [hx] at hr;cases hr
         | some z=>rw [hx] at hr;exact okT_define h (part_ok hp) ⟨sign_pos hsg,frac_bd hf,frac_bd hx⟩ hr
theorem pows_ok:∀ k:Nat,k < 61→(0 < powD 2 ((k:Int) - 30)∧(powD 2 ((k:Int) - 30)).num.natAbs < W32 ^ 4∧(powD 2 ((k:Int) - 30)).den < W32 ^ 4) ∧
 (0 < powD 10 ((k:Int) - 30)∧(powD 10 ((k:Int) - 30)).num.natAbs < W32 ^ 4∧(powD 10 ((k:Int) - 30)).den < W32 ^ 4):=by decide +kernel
theorem pref_ok {i:Int} {z:Int} (hb:rootD b=some z) (hx:expD x=some i):0 < powD (z:Rat) i∧Bd (powD (z:Rat) i) 4:=by
 unfold expD at hx
 rw [Option.map_eq_some_iff] at hx
 obtain ⟨k,hk,rfl⟩:=hx
 have hk1:=List.mem_range.1 (List.mem_of_find?_eq_some hk)
 obtain ⟨⟨a1,a2,a3⟩,c1,c2,c3⟩:=pows_ok k hk1
 unfold rootD at hb
 split at hb
 ·injection hb with hb;subst hb;exact ⟨a1,a2,a3⟩
 ·split at hb
  ·injection hb with hb;subst hb;exact ⟨c1,c2,c3⟩
  ·cases hb
theorem okT_pref (h:OkT n T) (hr:T.addPrefix s b x = .ok T'):OkT (n + 1) T':=by
 unfold Tb.addPrefix at hr
 split at hr
 ·cases hr
 ·split at hr
  ·cases hr
  ·cases hb:rootD b with
   | none=>rw [hb] at hr;cases hr
   | some z =>
     cases hx:expD x with
     | none=>rw [hb,hx] at hr;cases hr
     | some i =>
       rw [hb,hx] at hr
       injection hr with hr
       subst hr
       have hk:=pref_ok hb hx
       refine ⟨h.ent,fun t r ht=>?_,h.b8,Nat.le_succ_of_le h.l1,by simpa using h.l2,Nat.le_succ_of_le h.l3,Nat.le_succ_of_le h.l4⟩
       dsimp only at ht
       rw [lookL_append] at ht
       cases h1:lookL T.vals t with
       | some y=>rw [h1] at ht;injection ht with ht;subst ht;exact h.val t _ h1
       | none =>
         rw [h1,lookL_one] at ht
         by_cases e1:s=t
         ·rw [if_pos e1] at ht;injection ht with ht;subst ht;exact hk
         ·rw [if_neg e1] at ht;cases ht
theorem okT_row {w:List ByteArray} (h:OkT n T) (hr:T.row w = .ok T'):OkT (n + 1) T':=by
 unfold Tb.row at hr
 split at hr
 ·injection hr with hr;subst hr;exact h.more
 ·split at hr
  ·exact okT_base h hr
  ·split at hr
   ·exact okT_pref h hr
   ·split at hr
    ·exact okT_unit h hr
    ·split at hr
     ·exact okT_quan h hr
     ·split at hr
      ·exact okT_alias h hr
      ·split at hr
       ·cases hr
       ·injection hr with hr;subst hr;exact h.more
end
theorem exp_in {t:ByteArray} {i:Int} (h:expD t=some i):-30≤i∧i≤30:=by
 unfold expD at h
 rw [Option.map_eq_some_iff] at h
 obtain ⟨k,hk,rfl⟩:=h
 have hk1:=List.mem_range.1 (List.mem_of_find?_eq_some hk)
 omega
theorem root_in {t:ByteArray} {z:Int} (h:rootD t=some z):z=2 ∨ z=10:=by
 unfold rootD at h
 split at h
 ·injection h with h;exact .inl h.symm
 ·split at h
  ·injection h with h;exact .inr h.symm
  ·cases h
theorem rpow_d {z i:Int} (hz:z=2 ∨ z=10) (hi:-30≤i∧i≤30) {W:World} {b:Bool} {A A':Option Addr} {n c n' c':Nat} (h:QA W b A n c A' n' c' (z:Rat) 1):Calls Tryz.prog 127 #[.agg #[.bool b,.slice A n c,.slice A' n' c'],.int .i64 i] W (OfYw W false (powD (z:Rat) i)):=by
 have hp:(0:Rat) < (z:Rat)∧Bd (z:Rat) 1∧Bd (z:Rat)⁻¹ 1:=by
  rcases hz with rfl | rfl
  ·exact ⟨by decide,⟨by decide,by decide⟩,⟨by decide +kernel,by decide +kernel⟩⟩
  ·exact ⟨by decide,⟨by decide,by decide⟩,⟨by decide +kernel,by decide +kernel⟩⟩
 unfold powD
 by_cases h0:0≤i
 ·rw [if_pos h0]
  have h1:=rpow_p (k:=i.toNat) h (Rat.le_of_lt hp.1) hp.2.1 (by decide) (by decide) (by omega)
  rwa [Int.toNat_of_nonneg h0] at h1
 ·rw [if_neg h0]
  exact rpow_n (k:=(-i).toNat) (by omega) (by omega) h hp.1 hp.2.1 hp.2.2 (by decide) (by decide) (by omega)
theorem at_cell {V:World} {b i:Nat} {v:Value} {o:Obj} (h:V.cell? ⟨b,i,none⟩=some v) (hl:b < V.heap.size):(V.alloc o).drew.cell? ⟨b,i,none⟩=some v:=((((Below.refl _ V).alloc (Nat.le_refl _) o).drew).cell hl).trans h
section
variable {base p g y N:Nat} {W W':World} {x:TPl} {T:Tb} {s r t:ByteArray}
theorem pref_bad {T:Tb} (h:rootD r=none ∨ expD t=none) (h1:nameB s=true) (h2:lookL T.vals s=none):T.addPrefix s r t = .error 2:=by
 unfold Tb.addPrefix
 rw [if_neg (by rw [h1];decide),if_neg (by rw [h2];decide)]
 rcases h with h | h
 ·rw [h]
 ·rw [h];cases rootD r <;> rfl
theorem pref_yes {T:Tb} {z i:Int} (h:rootD r=some z) (h':expD t=some i) (h1:nameB s=true) (h2:lookL T.vals s=none):T.addPrefix s r t = .ok { T with vals:=T.vals ++ [(s,powD (z:Rat) i)] }:=by
 unfold Tb.addPrefix
 rw [if_neg (by rw [h1];decide),if_neg (by rw [h2];decide),h,h']
theorem taddPrefix_h (h:LdM base W g p y x T) (ok:OkT N T) (hN:N≤900000) (hbase:base≤W.heap.size) (hs:s.size≤2000000) (ht:t.size≤2000000) (tb:Tabs W) :
 Calls Tryz.prog 86 #[.pointer (some ⟨g,0,none⟩),.string s,.string r,.string t] W (StR base W g p y x (T.addPrefix s r t)):=by
 obtain ⟨nb,hnb⟩:∃ b,nameB s=b:=⟨_,rfl⟩
 have CN:Hid (∀ W',Calls Tryz.prog 124 #[.string s] W' (RetB W' nb)):=fun W'=>tname_h hs hnb W'
 have CR:Hid (∀ W',Calls Tryz.prog 125 #[.string r] W' (OptR W' (rootD r))):=fun W'=>troot_h W'
 have CE:Hid (∀ W',Bel W W'→Calls Tryz.prog 126 #[.string t] W' (OptR W' (expD t))):=fun W' hb=>texp_h (by omega) (tb.up hb.hid)
 obtain ⟨vb,VA,vn,vc,VB,vm,vd,k1,_,_⟩:=h.tab.lookV hs
 obtain ⟨b1,hb1⟩:∃ b,(lookL T.vals s).isSome=b:=⟨_,rfl⟩
 rw [hb1] at k1
 have K1:=khide k1
 have HB:=Bel.refl W
 have HM:=khide h
 have HNB:=khide hnb
 have HB1:=khide hb1
 have HS:=khide hs
 have HBS:=khide hbase
 have HLE:Hid (T.vals.length≤900000):=Nat.le_trans ok.l2 hN
 obtain ⟨R,hR⟩:∃ z,T.addPrefix s r t=z:=⟨_,rfl⟩
 rw [hR]
 have HR:=khide hR
 clear h ok hN hbase hs ht tb k1 hb1 hnb hR
 cases nb
 ·have e1:R = .error 2:=by rw [← HR.out];unfold Tb.addPrefix;rw [if_pos HNB.out]
  rw [e1]
  clear e1
  go_enter Tryz.func86,Tryz.ntmps86
  go_wp2_with (first | (go_at_call 124;(with_reducible refine (CN.out _).mono ?_);rintro e w1 ⟨rfl,hb1⟩) | fail)
  go_ret
  exact ⟨rfl,hb1⟩
 cases b1
 rotate_left
 ·have e1:R = .error 10:=by rw [← HR.out];unfold Tb.addPrefix;rw [if_neg (by rw [HNB.out];decide),if_pos HB1.out]
  rw [e1]
  clear e1
  go_enter Tryz.func86,Tryz.ntmps86
  go_upto_region 3 with (first | (go_at_call 124;(with_reducible refine (CN.out _).mono ?_);rintro e w1 ⟨rfl,hb1⟩) | fail)
  have HM1:=khide (HM.out.up (Bel.hid hb1))
  have q0:=HM1.out.c0;have q3:=HM1.out.tab.c3;have ql:=HM1.out.lt;have qp:=HM1.out.tab.lt
  have k1:=K1.out w1 (Turn.of (Bel.hid hb1))
  go_wp2_with fail
  go_ret
  exact ⟨rfl,hb1.al _⟩
 have HN:Hid (lookL T.vals s=none):=by
  cases hl:lookL T.vals s with
  | none=>rfl
  | some e=>have h1:=HB1.out;rw [hl] at h1;cases h1
 cases hr:rootD r with
 | none =>
   have e1:R = .error 2:=HR.out.symm.trans (pref_bad (.inl hr) HNB.out HN.out)
   rw [e1]
   rw [hr] at CR
   have CR1:Hid (∀ W',Calls Tryz.prog 125 #[.string r] W' (fun e w'=>e = .returned (.tuple #[.int .i64 0,.bool false])∧Bel W' w')):=CR
   clear hr e1 CR
   cases he:expD t with
   | none =>
     rw [he] at CE
     have CE1:Hid (∀ W',Bel W W'→Calls Tryz.prog 126 #[.string t] W' (fun e w'=>e = .returned (.tuple #[.int .i64 0,.bool false])∧Bel W' w')):=CE
     clear he CE
     go_enter Tryz.func86,Tryz.ntmps86
     go_upto_region 3 with (first | (go_at_call 124;(with_reducible refine (CN.out _).mono ?_);rintro e w1 ⟨rfl,hb1⟩) | fail)
     have HM1:=khide (HM.out.up (Bel.hid hb1))
     have q0:=HM1.out.c0;have q3:=HM1.out.tab.c3;have ql:=HM1.out.lt;have qp:=HM1.out.tab.lt
     have k1:=K1.out w1 (Turn.of (Bel.hid hb1))
     go_upto_region 6 with fail
     refine kwp_named ?_
     intro W2 hW2
     have HB2:Bel W W2:=by rw [hW2];exact hb1.al _
     clear hW2 hb1 HM1 q0 q3 ql qp k1
     go_wp2_with (first | (go_at_call 125;(with_reducible refine (CR1.out _).mono ?_);rintro e w3 ⟨rfl,hb3⟩;replace HB2:=HB2.up (Bel.hid hb3)) | (go_at_call 126;(with_reducible refine (CE1.out _ HB2).mono ?_);rintro e w4 ⟨rfl,hb4⟩;replace HB2:=HB2.up (Bel.hid hb4)) | fail)
     go_ret
     exact ⟨rfl,HB2⟩
   | some i =>
     rw [he] at CE
     have CE1:Hid (∀ W',Bel W W'→Calls Tryz.prog 126 #[.string t] W' (fun e w'=>e = .returned (.tuple #[.int .i64 i,.bool true])∧Bel W' w')):=CE
     clear he CE
     go_enter Tryz.func86,Tryz.ntmps86
     go_upto_region 3 with (first | (go_at_call 124;(with_reducible refine (CN.out _).mono ?_);rintro e w1 ⟨rfl,hb1⟩) | fail)
     have HM1:=khide (HM.out.up (Bel.hid hb1))
     have q0:=HM1.out.c0;have q3:=HM1.out.tab.c3;have ql:=HM1.out.lt;have qp:=HM1.out.tab.lt
     have k1:=K1.out w1 (Turn.of (Bel.hid hb1))
     go_upto_region 6 with fail
     refine kwp_named ?_
     intro W2 hW2
     have HB2:Bel W W2:=by rw [hW2];exact hb1.al _
     clear hW2 hb1 HM1 q0 q3 ql qp k1
     go_wp2_with (first | (go_at_call 125;(with_reducible refine (CR1.out _).mono ?_);rintro e w3 ⟨rfl,hb3⟩;replace HB2:=HB2.up (Bel.hid hb3)) | (go_at_call 126;(with_reducible refine (CE1.out _ HB2).mono ?_);rintro e w4 ⟨rfl,hb4⟩;replace HB2:=HB2.up (Bel.hid hb4)) | fail)
     go_ret
     exact ⟨rfl,HB2⟩
 | some z =>
   have hz:=root_in hr
   cases he:expD t with
   | none =>
     have e1:R = .error 2:=HR.out.symm.trans (pref_bad (.inr he) HNB.out HN.out)
     rw [e1]
     rw [hr] at CR
     rw [he] at CE
     have CR1:Hid (∀ W',Calls Tryz.prog 125 #[.string r] W' (fun e w'=>e = .returned (.tuple #[.int .i64 z,.bool true])∧Bel W' w')):=CR
     have CE1:Hid (∀ W',Bel W W'→Calls Tryz.prog 126 #[.string t] W' (fun e w'=>e = .returned (.tuple #[.int .i64 0,.bool false])∧Bel W' w')):=CE
     clear hr he e1 CR CE hz
     go_enter Tryz.func86,Tryz.ntmps86
     go_upto_region 3 with (first | (go_at_call 124;(with_reducible refine (CN.out _).mono ?_);rintro e w1 ⟨rfl,hb1⟩) | fail)
     have HM1:=khide (HM.out.up (Bel.hid hb1))
     have q0:=HM1.out.c0;have q3:=HM1.out.tab.c3;have ql:=HM1.out.lt;have qp:=HM1.out.tab.lt
     have k1:=K1.out w1 (Turn.of (Bel.hid hb1))
     go_upto_region 6 with fail
     refine kwp_named ?_
     intro W2 hW2
     have HB2:Bel W W2:=by rw [hW2];exact hb1.al _
     clear hW2 hb1 HM1 q0 q3 ql qp k1
     go_wp2_with (first | (go_at_call 125;(with_reducible refine (CR1.out _).mono ?_);rintro e w3 ⟨rfl,hb3⟩;replace HB2:=HB2.up (Bel.hid hb3)) | (go_at_call 126;(with_reducible refine (CE1.out _ HB2).mono ?_);rintro e w4 ⟨rfl,hb4⟩;replace HB2:=HB2.up (Bel.hid hb4)) | fail)
     go_ret
     exact ⟨rfl,HB2⟩
   | some i =>
     have e1:R = .ok { T with vals:=T.vals ++ [(s,powD (z:Rat) i)] }:=HR.out.symm.trans (pref_yes hr he HNB.out HN.out)
     rw [e1]
     have hbd:=pref_ok hr he
     have hii:=exp_in he
     have hzq:Bd (z:Rat) 1:=by rcases hz with rfl | rfl <;> exact ⟨by decide,by decide⟩
     rw [hr] at CR
     rw [he] at CE
     have CR1:Hid (∀ W',Calls Tryz.prog 125 #[.string r] W' (fun e w'=>e = .returned (.tuple #[.int .i64 z,.bool true])∧Bel W' w')):=CR
     have CE1:Hid (∀ W',Bel W W'→Calls Tryz.prog 126 #[.string t] W' (fun e w'=>e = .returned (.tuple #[.int .i64 i,.bool true])∧Bel W' w')):=CE
     have CI:Hid (∀ W',Calls Tryz.prog 123 #[.int .i64 z] W' (QaR W' (z:Rat) 1)):=fun W'=>qint_h (by rcases hz with rfl | rfl <;> decide) (by rcases hz with rfl | rfl <;> decide) rfl hzq W'
     have CW:Hid (∀ W' b A n c A' n' c',QA W' b A n c A' n' c' (z:Rat) 1→Calls Tryz.prog 127 #[.agg #[.bool b,.slice A n c,.slice A' n' c'],.int .i64 i] W' (OfYw W' false (powD (z:Rat) i))):=fun W' b A n c A' n' c' hq=>rpow_d hz hii hq
     obtain ⟨pw,hpw⟩:∃ q,powD (z:Rat) i=q:=⟨_,rfl⟩
     rw [hpw] at CW hbd ⊢
     obtain ⟨pn,hpn⟩:∃ z,dl pw.num.natAbs=z:=⟨_,rfl⟩
     obtain ⟨pd,hpd⟩:∃ z,dl pw.den=z:=⟨_,rfl⟩
     have CW1:Hid (∀ W' b A n c A' n' c',QA W' b A n c A' n' c' (z:Rat) 1→Calls Tryz.prog 127 #[.agg #[.bool b,.slice A n c,.slice A' n' c'],.int .i64 i] W' (fun e w'=>∃ B c3 B' c4,e = .returned (.tuple #[.agg #[.bool false,.slice B pn c3,.slice B' pd c4],.bool true])∧QA w' false B pn c3 B' pd c4 pw 4∧Bel W' w')):=fun W' b A n c A' n' c' hq=>(CW.out W' b A n c A' n' c' hq).mono (by
      rintro e w' ⟨B,c3,B',c4,h1,h2,h3,h4⟩
      rw [hpn,hpd] at h1
      rw [hpn] at h2
      rw [hpd] at h3
      exact ⟨B,c3,B',c4,h1,qa_of h2 h3 hbd.2,h4⟩)
     clear hr he e1 CR CE hz hii hzq CW hpn hpd hpw hbd
     go_enter Tryz.func86,Tryz.ntmps86
     go_upto_region 3 with (first | (go_at_call 124;(with_reducible refine (CN.out _).mono ?_);rintro e w1 ⟨rfl,hb1⟩) | fail)
     have HM1:=khide (HM.out.up (Bel.hid hb1))
     have q0:=HM1.out.c0;have q3:=HM1.out.tab.c3;have ql:=HM1.out.lt;have qp:=HM1.out.tab.lt
     have k1:=K1.out w1 (Turn.of (Bel.hid hb1))
     go_upto_region 6 with fail
     refine kwp_named ?_
     intro W2 hW2
     have HB2:Bel W W2:=by rw [hW2];exact hb1.al _
     clear hW2 hb1 HM1 q0 q3 ql qp k1
     go_upto_region 10 with (first | (go_at_call 125;(with_reducible refine (CR1.out _).mono ?_);rintro e w3 ⟨rfl,hb3⟩;replace HB2:=HB2.up (Bel.hid hb3)) | (go_at_call 126;(with_reducible refine (CE1.out _ HB2).mono ?_);rintro e w4 ⟨rfl,hb4⟩;replace HB2:=HB2.up (Bel.hid hb4)) | fail)
     obtain ⟨W3,rfl⟩:∃ X,X=w4:=⟨_,rfl⟩
     have HM3:=khide (HM.out.up (Bel.hid HB2))
     have HS10:Hid (∀ w':World,Bel W3 w'→w'.cell? ⟨g,0,none⟩=some (.pointer (some ⟨p,0,none⟩))∧w'.cell? ⟨p,3,none⟩=some (.map (some x.b2))):=fun w' hw =>
      ⟨(hw.cell HM3.out.lt).trans HM3.out.c0,(hw.cell HM3.out.tab.lt).trans HM3.out.tab.c3⟩
     have HBX:Bel W3 W3:=Bel.refl _
     have hL1:=HM3.out.lt;have hL2:=HM3.out.tab.lt
     refine wp_region_held_drew (S:=fun w'=>w'.cell? ⟨g,0,none⟩=some (.pointer (some ⟨p,0,none⟩))∧w'.cell? ⟨p,3,none⟩=some (.map (some x.b2))) (by kernel_rfl) ?_ (fun hHeld=>?_)
     ·exact HS10.out _ (Bel.refl _).dr
     refine tq 0 ?_
     refine tq 1 ?_
     refine tq 2 ?_
     refine tq 3 ?_
     refine tq 4 ?_
     refine tq 5 ?_
     refine tq 6 ?_
     refine tq 7 ?_
     refine tq 8 ?_
     refine tq 10 ?_
     (refine sk 9 (fun K hK=>?_);go_simp;(go_at_call 123;refine (CI.out _).mono ?_;rintro e wi ⟨i1,A1,n1,c1,B1,m1,d1,rfl,q1,hbk⟩;replace HBX:Bel W3 wi:=(Bel.refl W3).dr.up (Bel.hid hbk));(try (go_wp2_with fail));refine hK.out _ _ ?_ (fun hHeld=>?_);(focus ((try dsimp only);exact HS10.out _ HBX));clear hK K;(try simp only [lay7,Act.put]))
     (refine sk 11 (fun K hK=>?_);go_simp;(go_at_call 127;refine (CW1.out _ _ _ _ _ _ _ _ q1).mono ?_;rintro e wp ⟨PB,c3,PB',c4,rfl,q2,hbk2⟩;replace HBX:Bel W3 wp:=HBX.up (Bel.hid hbk2));(try (go_wp2_with fail));refine hK.out _ _ ?_ (fun hHeld=>?_);(focus ((try dsimp only);exact HS10.out _ HBX));clear hK K;(try simp only [lay7,Act.put]))
     refine tq 12 ?_
     refine tq 13 ?_
     refine tq 14 ?_
     obtain ⟨l2,hm2,hr2⟩:=HM3.out.tab.vals
     have hdp:MapV wp x.b2 l2:=hm2.up (Bel.hid HBX)
     obtain ⟨w5,hr5,hm5,hg5⟩:=hdp.put (v:=.agg #[.bool false,.slice PB pn c3,.slice PB' pd c4]) Tryz.underlying85 HS.out (by have h1:=hr2.len;have h2:=HLE.out;omega) (hr2.no s HN.out)
     have HDP:=khide hdp
     have HRR:=khide hr2
     have ap:=khide HM3.out.apart
     have m2:=khide (ap.out.mg x.b2 (by simp))
     have hgk:w5.heap[g]? = wp.heap[g]?:=hg5.block g (Nat.lt_of_lt_of_le HM3.out.lt HBX.sz) (fun e=>m2.out.1 (by injection e with e;exact e.symm))
     have hpk:w5.heap[p]? = wp.heap[p]?:=hg5.block p (Nat.lt_of_lt_of_le HM3.out.tab.lt HBX.sz) (fun e=>m2.out.2.1 (by injection e with e;exact e.symm))
     have HS5:w5.cell? ⟨g,0,none⟩=some (.pointer (some ⟨p,0,none⟩))∧w5.cell? ⟨p,3,none⟩=some (.map (some x.b2)):=⟨(cell_same hgk 0).trans (HS10.out _ HBX).1,(cell_same hpk 3).trans (HS10.out _ HBX).2⟩
     (refine sk 15 (fun K hK=>?_);go_simp;refine hK.out _ _ HS5 (fun hHeld=>?_);clear hK K;(try simp only [lay7,Act.put]))
     refine wpAnyH_done (by decide +kernel) ?_ _
     have HBX5:=khide HBX
     have HHM5:=khide hm5
     have TT5:Hid (Turn [x.b2] W w5):=(((Turn.of HB2.hid).trans (Turn.of HBX.hid)).trans (Turn.grown hg5)).mono (by simp)
     have KK5:Hid (KU W w5):=((KU.below HB2.hid).trans (KU.below HBX.hid)).trans (KU.map hg5 HDP.out)
     have KP5:Hid (KU wp w5):=KU.map hg5 HDP.out
     have HQ2:=khide q2
     have HSW:Hid (W.heap.size≤w5.heap.size):=TT5.out.size
     obtain ⟨N1,cp1,ev2,_⟩:=HM.out.tab.row2.form
     have hlen:T.prefs.length=T.vals.length:=by simp [Tb.prefs]
     rw [hlen] at ev2
     obtain ⟨nn,hnn⟩:∃ nn,nn=T.vals.length:=⟨_,rfl⟩
     rw [← hnn] at ev2
     have HNN:=khide hnn
     have HV2:=khide ev2
     have HAP:=khide HM.out.apart
     have HRG:Hid (∀ k,k ∉ x.rows→k ∉ (Value.slice N1 nn cp1).ownBlock.toList):=fun k hk hm=>hk (TPl.row2 (by rw [HV2.out];simpa using hm))
     have hgw:w5.heap[g]? = some (.cells #[.pointer (some ⟨p,0,none⟩),.int .i64 (T.bases:Int),.map (some y)] 124 (0,0)):=(TT5.out.block g HM.out.lt (by simpa using (HAP.out.mg x.b2 (by simp)).1.symm)).trans HM.out.blk
     have hpw:w5.heap[p]? = some (.cells #[x.v1,x.v2,.map (some x.b1),.map (some x.b2),.map (some x.b3),.pointer (some ⟨x.p2,0,none⟩)] 89 (0,0)):=(TT5.out.block p HM.out.tab.lt (by simpa using (HAP.out.mg x.b2 (by simp)).2.1.symm)).trans HM.out.tab.blk
     have R1:Row w5 base (.slice N1 nn cp1) T.prefs:=by
      have h1:=HM.out.tab.row2.turn TT5.out (fun k hk hm=>(HAP.out.mg x.b2 (by simp)).2.2.2 (by rw [← List.mem_singleton.1 hm];exact TPl.row2 hk))
      rw [← HV2.out];exact h1
     have HO1:=khide R1
     have HS1:Hid (base≤w5.heap.size):=Nat.le_trans HBS.out HSW.out
     have HPW:=khide hpw
     have HGW:=khide hgw
     have g0:w5.cell? ⟨g,0,none⟩=some (.pointer (some ⟨p,0,none⟩)):=by rw [cell_of_row _ _ 0 _ _ (0,0) hgw];rfl
     have gl:g < w5.heap.size:=(Array.getElem?_eq_some_iff.1 hgw).1
     have t0:w5.cell? ⟨p,1,none⟩=some (.slice N1 nn cp1):=by rw [cell_of_row _ _ 1 _ _ (0,0) hpw,← HV2.out];rfl
     have tf:w5.frozen? ⟨p,1,none⟩=false:=by simp [World.frozen?,hpw]
     have tl:p < w5.heap.size:=(Array.getElem?_eq_some_iff.1 hpw).1
     have HGP:Hid (g ∉ x.rows∧p ∉ x.rows):=⟨HAP.out.rg.1,HAP.out.rg.2.1⟩
     have HGP2:Hid (p ≠ g):=fun e=>HAP.out.gp e.symm
     clear hm5 hg5 hr5 hdp hm2 hr2 ap m2 hgk hpk HS5 q1 q2 HBX hL1 hL2 hHeld HS10 hnn hlen ev2 R1 hgw hpw HM3
     go_upto_region 11 with fail
     rename_i KK hnext
     refine wp_region_held_drew (S:=fun w'=>w'.cell? ⟨g,0,none⟩=some (.pointer (some ⟨p,0,none⟩))) (by kernel_rfl) g0 (fun hHeld=>?_)
     refine tq 0 ?_
     refine tq 1 ?_
     refine tq 2 ?_
     refine tq 3 ?_
     refine tq 4 ?_
     refine tq 5 ?_
     refine tq 6 ?_
     refine tq 7 ?_
     refine tq 8 ?_
     refine tq 9 ?_
     refine tq 11 ?_
     refine wpAnyH_ready (rs:=[10,12]) (by decide +kernel) (by simp) ?_
     refine AllReadyH.cons rfl (fun K hK=>?_) (AllReadyH.cons rfl (fun K hK=>?_) AllReadyH.nil)
     all_goals (first | (go_simp;refine hK.out _ _ ?_ (fun hHeld=>?_);(focus ((try dsimp only);exact g0));clear hK K;(try simp only [lay7,Act.put]);(refine sk 12 (fun K hK=>?_);go_simp;refine hK.out _ _ ?_ (fun hHeld=>?_);(focus ((try dsimp only);exact (at_cell g0 gl)));clear hK K;(try simp only [lay7,Act.put]))) | (go_simp;refine hK.out _ _ ?_ (fun hHeld=>?_);(focus ((try dsimp only);exact (at_cell g0 gl)));clear hK K;(try simp only [lay7,Act.put]);(refine sk 10 (fun K hK=>?_);go_simp;refine hK.out _ _ ?_ (fun hHeld=>?_);(focus ((try dsimp only);exact (at_cell g0 gl)));clear hK K;(try simp only [lay7,Act.put]))))
     all_goals
      refine wpAnyH_ready (rs:=[13]) (by decide +kernel) (by simp) ?_
      refine AllReadyH.cons rfl (fun K hK=>?_) AllReadyH.nil
      refine if_plain rfl ?_
      refine wp_append_str _ _ 60 (by rfl) Tryz.underlying60 base _ T.prefs (by rfl) (HO1.out.up (((Below.refl _ _).alloc (Nat.le_refl _) _).drew)) w5.heap.size s (by rfl) (at_new0 w5 _ _).dr.c0 (by have h1:=HNN.out;have h2:=HLE.out;simp [Tb.prefs];omega) (Nat.le_trans HS1.out (Nat.le_of_lt (heap_lt w5 _))) ?_
      intro v1 w3 ho3 hg3 hloc3 hku3
      obtain ⟨A1,cap1,rfl⟩:∃ A1 cap1,v1 = .slice A1 (nn + 1) cap1:=by
       obtain ⟨A1,c1,e1,_⟩:=ho3.form
       exact ⟨A1,c1,by rw [e1,HNN.out];simp [Tb.prefs]⟩
      have T13:Hid (Turn (Value.slice N1 nn cp1).ownBlock.toList w5 w3):=((Turn.of (Bel.hid (((Bel.refl w5).al _).dr))).trans (Turn.grown hg3)).mono (by simp)
      have hgc:w3.heap[g]? = w5.heap[g]?:=T13.out.block g gl (HRG.out g HGP.out.1)
      have hpc:w3.heap[p]? = w5.heap[p]?:=T13.out.block p tl (HRG.out p HGP.out.2)
      have t3:=(cell_same hpc 1).trans t0
      have tf3:w3.frozen? ⟨p,1,none⟩=false:=by unfold World.frozen? at tf ⊢;rw [hpc];exact tf
      have tl3:p < w3.heap.size:=Nat.lt_of_lt_of_le tl T13.out.size
      refine hK.out _ _ ((cell_same hgc 0).trans g0) (fun hHeld=>?_)
      clear hK K
      (try simp only [lay7,Act.put])
      refine tq 14 ?_
      refine tq 15 ?_
      (refine sk 16 (fun K hK=>?_);go_simp;refine hK.out _ _ ?_ (fun hHeld=>?_);(focus ((try dsimp only);exact (World.cell?_setCell_other _ _ _ _ (fun e=>HGP2.out (congrArg Addr.block e))).trans hHeld));clear hK K;(try simp only [lay7,Act.put]))
      refine wpAnyH_done (by decide +kernel) ?_ _
      refine name_at ?_
      intro w4 hw4
      have T14:Hid (Turn (p :: (Value.slice N1 nn cp1).ownBlock.toList) w5 w4):=by rw [hw4];exact (T13.out.trans (Turn.set w3 ⟨p,1,none⟩ _)).mono sub1
      have K4:Hid (KU W w4):=by
       rw [hw4]
       exact (KK5.out.trans ((KU.below (Bel.hid (((Bel.refl w5).al _).dr))).trans hku3)).trans (KU.set t3 (fun x e=>by cases e))
      have KP4:Hid (KU wp w4):=by
       rw [hw4]
       exact (KP5.out.trans ((KU.below (Bel.hid (((Bel.refl w5).al _).dr))).trans hku3)).trans (KU.set t3 (fun x e=>by cases e))
      have B4:Hid (w4.heap[p]? = some (.cells #[x.v1,.slice A1 (nn + 1) cap1,.map (some x.b1),.map (some x.b2),.map (some x.b3),.pointer (some ⟨x.p2,0,none⟩)] 89 (0,0))):=by
       have h1:=hpc.trans HPW.out
       rw [hw4]
       simp [Hid,World.setCell,Array.getElem?_modify,h1]
      have hne3:(Value.slice A1 (nn + 1) cap1).ownBlock ≠ some p:=own_ne_cells ho3.own (hpc.trans HPW.out) (by decide)
      have R4:Hid (Row w4 base (.slice A1 (nn + 1) cap1) (T.prefs ++ [s])):=by
       rw [hw4]
       exact ho3.turn (Turn.set _ _ _) (fun g hg=>by intro h5;rw [List.mem_singleton.1 h5] at hg;exact hne3 hg)
      have HLC:=khide hloc3
      clear hw4 hne3 t3 tf3 tl3 hgc hpc ho3 hg3 hloc3 hku3 hHeld T13 g0 gl t0 tf tl
      have MB:=khide (HAP.out.mg x.b2 (by simp))
      have M4:MapV w4 x.b2 (l2 ++ [(s,.agg #[.bool false,.slice PB pn c3,.slice PB' pd c4])]):=HHM5.out.turn T14.out (fun hm=>by
       rcases List.mem_cons.1 hm with hm | hm
       ·exact MB.out.2.1 hm
       ·exact HRG.out _ MB.out.2.2.2 hm)
      have HM4:=khide M4
      have TT6:Hid (Turn ((p :: x.v2.ownBlock.toList) ++ [x.b2]) W w4):=by
       rw [HV2.out]
       refine (TT5.out.trans T14.out).mono (fun k hk=>?_)
       rcases List.mem_append.1 hk with hk | hk
       ·exact List.mem_append_right _ hk
       ·exact List.mem_append_left _ hk
      clear M4
      refine hnext _ _ ?_
      go_wp2_with fail
      go_ret
      refine ⟨rfl,pref_end HM.out TT6.out K4.out B4.out R4.out ?_ ⟨_,HM4.out,(HRR.out.mono fun s e v hv=>hv.ku ((KU.below HBX5.out.hid).trans KP4.out)).more HN.out ⟨_,_,_,_,_,_,_,rfl,HQ2.out.ku KP4.out⟩⟩⟩
      rw [HV2.out];exact HLC.out.imp id (fun ⟨k,h1,h2⟩=>⟨k,h1,Nat.le_trans HSW.out (Nat.le_trans (Nat.le_of_lt (heap_lt w5 (.cells #[.string s] 9))) h2)⟩)
end
end Go.Proofs.YtfflmmbhpchloaaGreatDoor
end
