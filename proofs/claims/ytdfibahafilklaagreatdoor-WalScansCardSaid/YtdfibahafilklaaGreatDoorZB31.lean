import Derived.Test.YtdfibahafilklaaGreatDoorZB30
import Derived.Test.YtdfibahafilklaaGreatDoorZB29
set_option maxRecDepth 100000
set_option maxHeartbeats 8000000
set_option linter.unusedVariables false
set_option linter.unusedSimpArgs false
namespace Go.Proofs.YtdfibahafilklaaGreatDoor.VP
open Go.RowKit MM VM
theorem xor_ones (x:BitVec 64):(x ^^^ BitVec.allOnes 64).toNat=18446744073709551615 - x.toNat:=by
 rw [BitVec.xor_allOnes,BitVec.toNat_not]
theorem ofInt_nat (x:Nat) (h:x<18446744073709551616):(BitVec.ofInt 64 (x:Int)).toNat=x:=by
 rw [BitVec.ofInt_natCast,BitVec.toNat_ofNat];exact Nat.mod_eq_of_lt (by omega)
theorem ofInt_ones:BitVec.ofInt 64 18446744073709551615=BitVec.allOnes 64:=by decide
theorem ofInt_neg1:BitVec.ofInt 64 (-1)=BitVec.allOnes 64:=by decide
theorem zig_val (n:Int) (h0 : -9223372036854775808≤n) (h1:n≤9223372036854775807) :
  bits .xor .u64 (IntKind.u64.wrap (IntKind.u64.wrap n*2)) (IntKind.u64.wrap (n / 9223372036854775808))=(zig n:Int):=by
 unfold zig
 by_cases h:0≤n
 ·obtain ⟨m,rfl⟩:=Int.eq_ofNat_of_zero_le h
  have e1:IntKind.u64.wrap ((m:Int) / 9223372036854775808)=((0:Nat):Int):=by rw [IntKind.wrap_u64];omega
  have e2:IntKind.u64.wrap (IntKind.u64.wrap (m:Int)*2)=((2*m:Nat):Int):=by rw [IntKind.wrap_u64,IntKind.wrap_u64];omega
  rw [e1,e2,u64_xor_nat _ _ (by omega) (by omega),Nat.xor_zero,if_pos h]
  omega
 ·have e1:IntKind.u64.wrap (n / 9223372036854775808)=18446744073709551615:=by rw [IntKind.wrap_u64];omega
  obtain ⟨x,hx,hxl⟩:∃ x:Nat,IntKind.u64.wrap (IntKind.u64.wrap n*2)=(x:Int)∧(x:Int)=2*n+18446744073709551616:=⟨(2*n+18446744073709551616).toNat,by rw [IntKind.wrap_u64,IntKind.wrap_u64];omega,by omega⟩
  rw [e1,hx,if_neg h]
  show IntKind.u64.wrap ((BitVec.ofInt 64 (x:Int) ^^^ BitVec.ofInt 64 18446744073709551615).toNat:Int)=_
  rw [ofInt_ones,xor_ones,ofInt_nat x (by omega),IntKind.wrap_u64]
  omega
theorem unzig_val (n:Nat) (h1:n<18446744073709551616):bits .xor .i64 ((n:Int) / 2) (wrap64 (-wrap64 (bits .and .u64 (n:Int) 1)))=zag n:=by
 have e0:bits .and .u64 (n:Int) 1=((n%2:Nat):Int):=by
  have:=u64_and_nat n 1 h1 (by omega)
  rw [Nat.and_one_is_mod] at this
  exact this
 have e1:(n:Int) / 2=((n / 2:Nat):Int):=by omega
 rw [e0,e1]
 unfold zag
 by_cases h:n%2=0
 ·rw [if_pos h,h]
  have e2:wrap64 (-wrap64 ((0:Nat):Int))=0:=by unfold wrap64;omega
  rw [e2]
  show IntKind.i64.wrap ((BitVec.ofInt 64 ((n / 2:Nat):Int) ^^^ BitVec.ofInt 64 0).toNat:Int)=_
  rw [show BitVec.ofInt 64 0=0#64 from by decide,BitVec.xor_zero,ofInt_nat _ (by omega),IntKind.wrap_i64]
  omega
 ·have h2:n%2=1:=by omega
  rw [if_neg h,h2]
  have e2:wrap64 (-wrap64 ((1:Nat):Int)) = -1:=by unfold wrap64;omega
  rw [e2]
  show IntKind.i64.wrap ((BitVec.ofInt 64 ((n / 2:Nat):Int) ^^^ BitVec.ofInt 64 (-1)).toNat:Int)=_
  rw [ofInt_neg1,xor_ones,ofInt_nat _ (by omega),IntKind.wrap_i64]
  omega
theorem ret_i {k:IntKind} {a b:Int} (h:a=b):Ending.returned (.int k a)=.returned (.int k b):=by rw [h]
theorem zag_even {n:Nat} (h:n%2=0):(n:Int) / 2=zag n:=by unfold zag;rw [if_pos h];omega
theorem zag_odd {n:Nat} (h:¬ n%2=0) : -1 - (n:Int) / 2=zag n:=by unfold zag;rw [if_neg h];omega
theorem zig_any (n:Int) (w:World) (h0 : -9223372036854775808≤n) (h1:n≤9223372036854775807):Calls Tryz.prog 175 #[.int .i64 n] w fun e w'=>e=.returned (.int .u64 (zig n))∧w=w':=by
 have HV:=Lib.hid (zig_val n h0 h1)
 go_enter Tryz.func175,Tryz.ntmps175
 go_wp2_with fail
 go_ret
 exact ⟨ret_i HV.out,rfl⟩
theorem unzig_any (n:Nat) (w:World) (h1:n<18446744073709551616):Calls Tryz.prog 204 #[.int .u64 n] w fun e w'=>e=.returned (.int .i64 (zag n))∧w=w':=by
 have HV:=Lib.hid (unzig_val n h1)
 go_enter Tryz.func204,Tryz.ntmps204
 go_wp2_with fail
 go_ret
 exact ⟨ret_i HV.out,rfl⟩
theorem rback_any (n:Nat) (w:World) (h1:n<18446744073709551616):Calls Tryz.prog 171 #[.int .u64 n] w fun e w'=>e=.returned (.int .i64 (zag n))∧w=w':=by
 by_cases h:n%2=0
 ·have t:((n:Int)%2 == 0)=true:=by simp;omega
  have HV:=Lib.hid (zag_even h)
  clear h
  go_enter Tryz.func171,Tryz.ntmps171
  go_wp2_with fail
  go_ret
  exact ⟨ret_i HV.out,rfl⟩
 ·have t:((n:Int)%2 == 0)=false:=by simp;omega
  have HV:=Lib.hid (zag_odd h)
  clear h
  go_enter Tryz.func171,Tryz.ntmps171
  go_wp2_with fail
  go_ret
  exact ⟨ret_i HV.out,rfl⟩
theorem putint_any (v:Value) (l:List UInt8) (n:Int) (w:World) (h0 : -9223372036854775808≤n) (h1:n≤9223372036854775807) (hr:BRow w v l) (hlen:l.length≤35184372088832) :
  Calls Tryz.prog 145 #[v,.int .i64 n] w (PutLeft w.heap.size (l++intL n) w):=by
 have k1:=fun W=>zig_any n W h0 h1
 have k2:=fun W (h:BRow W v l)=>put_any v l (zig n) W (zig_lt h0 h1) h hlen
 unfold intL
 generalize zig n=z at *
 have K1:=Lib.hid k1
 have K2:=Lib.hid k2
 have HR:=Lib.hid hr
 clear k1 k2 hr
 go_enter Tryz.func145,Tryz.ntmps145
 go_wp2_with fail
 refine (K1.out _).mono ?_
 rintro e w1 ⟨rfl,rfl⟩
 go_wp2_with fail
 refine (K2.out _ HR.out).mono ?_
 rintro e w1 ⟨v1,rfl,hown1,hb1⟩
 have HO:=Lib.hid hown1
 clear hown1
 go_wp2_with fail
 go_ret
 exact ⟨_,rfl,HO.out,hb1⟩
end Go.Proofs.YtdfibahafilklaaGreatDoor.VP
