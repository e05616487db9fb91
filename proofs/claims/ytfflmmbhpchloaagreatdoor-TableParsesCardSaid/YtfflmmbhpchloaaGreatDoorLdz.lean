/- Each theorem here says its own conditions. -/
import Derived.Test.YtfflmmbhpchloaaGreatDoorProg
import Derived.Lib.Strings
import Derived.Lib.Slices
import Derived.Lib.Small
import Derived.Lib.Walk
import Derived.Lib.BitFns
set_option maxRecDepth 100000
set_option maxHeartbeats 16000000
section
namespace Go.Proofs.YtfflmmbhpchloaaGreatDoor
theorem len_cut (k:Nat) {t q:Nat} (hq:q=t / 2 ^ k) (hq8:q < 256) (h1:2 ^ k≤t) (h2:t < 2 ^ 64):Lib.len8 (q:Int)=(Lib.bitLen q:Int)∧Lib.bitLen q≤8∧Lib.bitLen t=k + Lib.bitLen q:=by
 have a1:=Lib.len8_of (q:Int) (by omega) (by omega)
 have a2:=Lib.bitLen_le8' (q:Int) (by omega) (by omega)
 rw [Int.toNat_natCast] at a1 a2
 exact ⟨a1,a2,by rw [hq];exact Lib.bitLen_shift k t h1 h2⟩
theorem Len32_int (x:Int) (w:World) (h0:0≤x) (h1:x≤4294967295):Calls Tryz.prog 163 #[.int .u32 x] w fun e w'=>e = .returned (.int .i64 (Lib.bitLen x.toNat:Int))∧w'=w:=by
 go_enter Tryz.func163,Tryz.ntmps163
 go_wp2
 all_goals (go_ret;refine ⟨congrArg Ending.returned (congrArg (Value.int IntKind.i64) ?_),rfl⟩)
 all_goals obtain ⟨t,rfl⟩:∃ t:Nat,x=t:=⟨x.toNat,by omega⟩
 all_goals rw [Int.toNat_natCast]
 ·obtain ⟨a1,a2,a3⟩:=len_cut 24 (t:=t) (q:=t / 16777216) rfl (by omega) (by omega) (by omega)
  rw [show (t:Int) / 65536 / 256 % 256=((t / 16777216:Nat):Int) by omega,a1];omega
 ·obtain ⟨a1,a2,a3⟩:=len_cut 16 (t:=t) (q:=t / 65536) rfl (by omega) (by omega) (by omega)
  rw [show (t:Int) / 65536 % 256=((t / 65536:Nat):Int) by omega,a1];omega
 ·obtain ⟨a1,a2,a3⟩:=len_cut 8 (t:=t) (q:=t / 256) rfl (by omega) (by omega) (by omega)
  rw [show (t:Int) / 256 % 256=((t / 256:Nat):Int) by omega,a1];omega
 ·have a1:=Lib.len8_of (t:Int) (by omega) (by omega)
  have a2:=Lib.bitLen_le8' (t:Int) (by omega) (by omega)
  rw [Int.toNat_natCast] at a1 a2
  rw [show (t:Int) % 256=(t:Int) by omega,a1];omega
end Go.Proofs.YtfflmmbhpchloaaGreatDoor
end
