/- Each theorem here says its own conditions. -/
import Derived.Test.YtfflmmbhpchloaaGreatDoorGTpwc7
import Derived.Test.YtfflmmbhpchloaaGreatDoorLdz
set_option maxRecDepth 100000
set_option maxHeartbeats 16000000
section
open Go.RowKit
namespace Go.Proofs.YtfflmmbhpchloaaGreatDoor
theorem zeros_ret {a b:Int} (h:a=b):Ending.returned (.int .i64 a) = .returned (.int .i64 b):=by rw [h]
theorem LeadingZeros32_any {t:Nat} (w:World) (h0:1≤t) (h1:t < W32) :
 Calls Tryz.prog 147 #[.int .u32 (t:Int)] w fun e w'=>(∃ s:Nat,e = .returned (.int .i64 (s:Int))∧s≤31∧Hid (2147483648≤t * 2 ^ s∧t * 2 ^ s < W32))∧w=w':=by
 obtain ⟨a,b,c⟩:=Lib.bitLenAux_bounds 64 t (by rw [W32_eq] at h1;omega) (by omega)
 have hL:Lib.bitLen t≤32:=Lib.bitLen_le t 32 (by omega) (by rw [W32_eq] at h1;exact h1)
 have HB:Hid (2147483648≤t * 2 ^ (32 - Lib.bitLen t)∧t * 2 ^ (32 - Lib.bitLen t) < W32):=norm_bits a b c hL
 have CL:Hid (∀ W:World,Calls Tryz.prog 163 #[.int .u32 (t:Int)] W fun e w'=>e = .returned (.int .i64 (Lib.bitLen t:Int))∧w'=W):=fun W=>by
  have h:=Len32_int (t:Int) W (by omega) (by rw [W32_eq] at h1;omega)
  rwa [Int.toNat_natCast] at h
 have hL1:1≤Lib.bitLen t:=a
 obtain ⟨L,hLe⟩:∃ L,L=Lib.bitLen t:=⟨_,rfl⟩
 rw [← hLe] at hL hL1
 simp only [← hLe] at HB CL
 clear hLe a b c h0 h1
 go_enter Tryz.func147,Tryz.ntmps147
 go_wp2_with (go_at_call 163;(with_reducible refine (CL.out _).mono ?_);rintro e w' ⟨rfl,rfl⟩)
 go_ret
 refine ⟨⟨32 - L,zeros_ret (by first | omega | (show (_:Int)=_;simp;omega)),by omega,HB⟩,rfl⟩
end Go.Proofs.YtfflmmbhpchloaaGreatDoor
end
