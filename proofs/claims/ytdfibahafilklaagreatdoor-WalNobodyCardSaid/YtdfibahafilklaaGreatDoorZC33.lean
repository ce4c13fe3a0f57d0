import Derived.Test.YtdfibahafilklaaGreatDoorZC32
set_option maxRecDepth 100000
set_option maxHeartbeats 8000000
set_option linter.unusedVariables false
set_option linter.unusedSimpArgs false
namespace Go.Proofs.YtdfibahafilklaaGreatDoor.VG
open Go.RowKit MM VM VP
theorem gettext_in (B:Nat) (v:Value) (l:List UInt8) (most:Int) (w:World) (h0 : -9223372036854775808≤most) (h1:most≤9223372036854775807) (hr:BIn B w v l) (hB:B≤w.heap.size) :
  Calls Tryz.prog 189 #[v,.int .i64 most] w (GotIn B (.string ⟨(getT l most).1.toArray⟩) (getT l most).2.2 (restT l most) w):=by
 have k1:=get_in B v l w hr hB
 rcases getL_cases l with ⟨n,k,hg,hb,hk1,hk2⟩ | hg | hg
 ·rw [hg,restL_ok hg] at k1
  have hcase:=getT_ok hg most
  obtain ⟨R,hR⟩:∃ R,l.drop k=R:=⟨_,rfl⟩
  rw [hR] at k1 hcase
  have K1:=Lib.hid k1
  obtain ⟨M,hM⟩:∃ M,max most 0=M:=⟨_,rfl⟩
  have hM2:max 0 most=M:=by omega
  have hmx:0≤M∧M≤9223372036854775807:=by omega
  rw [hM2] at hcase
  clear k1 hr hg hR hM2 h0 h1
  by_cases hm:M<(n:Int)
  ·obtain ⟨e1,e2,e3⟩:=hcase.1 hm
   rw [e1,e2,e3]
   clear hcase e1 e2 e3
   go_enter Tryz.func189,Tryz.ntmps189
   go_wp2_with fail
   refine K1.out.mono ?_
   rintro e w1 ⟨v1,rfl,hrow,hb1⟩
   clear hrow
   go_wp2_with fail
   go_ret3
   exact ⟨_,rfl,BIn.nil_ _ w1,hb1⟩
  ·by_cases hs:R.length<n
   ·obtain ⟨e1,e2,e3⟩:=hcase.2.1 hm hs
    rw [e1,e2,e3]
    clear hcase e1 e2 e3
    go_enter Tryz.func189,Tryz.ntmps189
    go_wp2_with fail
    refine K1.out.mono ?_
    rintro e w1 ⟨v1,rfl,hrow,hb1⟩
    obtain ⟨p,cap,rfl,hlc,hcm⟩:=hrow.shape
    unfold maxLen at hcm
    clear hrow
    go_wp2_with fail
    go_ret3
    exact ⟨_,rfl,BIn.nil_ _ w1,hb1⟩
   ·obtain ⟨e1,e2,e3⟩:=hcase.2.2 hm hs
    rw [e1,e2,e3]
    obtain ⟨T,hT⟩:∃ T:ByteArray,(⟨(R.take n).toArray⟩:ByteArray)=T:=⟨_,rfl⟩
    rw [hT]
    have HT:=Lib.hid hT
    clear hcase e1 e2 e3 hT
    go_enter Tryz.func189,Tryz.ntmps189
    go_wp2_with fail
    refine K1.out.mono ?_
    rintro e w1 ⟨v1,rfl,hrow,hb1⟩
    obtain ⟨p,cap,rfl,hlc,hcm⟩:=hrow.shape
    unfold maxLen at hcm
    have hconv:=fun nq=>((hrow.take n (by omega)).drewN nq).conv
    simp only [HT.out] at hconv
    have HR:=Lib.hid (hrow.drop3 n (by omega))
    have hi1:(n:Int)≤(R.length:Int):=by omega
    have hi2:(R.length:Int)≤(cap:Int):=by omega
    clear hrow
    go_wp2_with fail
    go_quiet (fail)
    clear hconv
    go_wp2_with fail
    ·go_ret3
     exact ⟨_,rfl,(HR.out.1 (by assumption)).drewN nq,MM.below_drewN hb1 nq⟩
    ·go_ret3
     exact ⟨_,rfl,(HR.out.2 (by assumption)).drewN nq,MM.below_drewN hb1 nq⟩
 ·rw [hg,restL_short hg] at k1
  obtain ⟨e1,e2,e3⟩:=getT_err hg (by decide) most
  rw [e1,e2,e3]
  have K1:=Lib.hid k1
  clear k1 hr hg e1 e2 e3
  go_enter Tryz.func189,Tryz.ntmps189
  go_wp2_with fail
  refine K1.out.mono ?_
  rintro e w1 ⟨v1,rfl,hrow,hb1⟩
  clear hrow
  go_wp2_with fail
  go_ret3
  exact ⟨_,rfl,BIn.nil_ _ w1,hb1⟩
 ·rw [hg,restL_bad hg] at k1
  obtain ⟨e1,e2,e3⟩:=getT_err hg (by decide) most
  rw [e1,e2,e3]
  have K1:=Lib.hid k1
  clear k1 hr hg e1 e2 e3
  go_enter Tryz.func189,Tryz.ntmps189
  go_wp2_with fail
  refine K1.out.mono ?_
  rintro e w1 ⟨v1,rfl,hrow,hb1⟩
  clear hrow
  go_wp2_with fail
  go_ret3
  exact ⟨_,rfl,BIn.nil_ _ w1,hb1⟩
end Go.Proofs.YtdfibahafilklaaGreatDoor.VG
namespace Go.Proofs.YtdfibahafilklaaGreatDoor.VP
open Go.RowKit MM VM
theorem xor_ones (x:BitVec 64):(x ^^^ BitVec.allOnes 64).toNat=18446744073709551615 - x.toNat:=by
 rw [BitVec.xor_allOnes,BitVec.toNat_not]
theorem ofInt_nat (x:Nat) (h:x<18446744073709551616):(BitVec.ofInt 64 (x:Int)).toNat=x:=by
 rw [BitVec.ofInt_natCast,BitVec.toNat_ofNat];exact Nat.mod_eq_of_lt (by omega)
theorem ofInt_ones:BitVec.ofInt 64 18446744073709551615=BitVec.allOnes 64:=by decide
theorem ofInt_neg1:BitVec.ofInt 64 (-1)=BitVec.allOnes 64:=by decide
theorem zig_val (n:Int) (h0 : -9223372036854775808≤n) (h1:n≤9223372036854775807) :
  bits .xor .u64 (IntKind.u64.wrap (IntKind.u64.wrap n*2)) (IntKind.u64.wrap (n / 9223372036854775808))=(zig n:Int):=by
 unfold zig
 by_cases h:0≤n
 ·obtain ⟨m,rfl⟩:=Int.eq_ofNat_of_zero_le h
  have e1:IntKind.u64.wrap ((m:Int) / 9223372036854775808)=((0:Nat):Int):=by rw [IntKind.wrap_u64];omega
  have e2:IntKind.u64.wrap (IntKind.u64.wrap (m:Int)*2)=((2*m:Nat):Int):=by rw [IntKind.wrap_u64,IntKind.wrap_u64];omega
  rw [e1,e2,u64_xor_nat _ _ (by omega) (by omega),Nat.xor_zero,if_pos h]
  omega
 ·have e1:IntKind.u64.wrap (n / 9223372036854775808)=18446744073709551615:=by rw [IntKind.wrap_u64];omega
  obtain ⟨x,hx,hxl⟩:∃ x:Nat,IntKind.u64.wrap (IntKind.u64.wrap n*2)=(x:Int)∧(x:Int)=2*n+18446744073709551616:=⟨(2*n+18446744073709551616).toNat,by rw [IntKind.wrap_u64,IntKind.wrap_u64];omega,by omega⟩
  rw [e1,hx,if_neg h]
  show IntKind.u64.wrap ((BitVec.ofInt 64 (x:Int) ^^^ BitVec.ofInt 64 18446744073709551615).toNat:Int)=_
  rw [ofInt_ones,xor_ones,ofInt_nat x (by omega),IntKind.wrap_u64]
  omega
theorem unzig_val (n:Nat) (h1:n<18446744073709551616):bits .xor .i64 ((n:Int) / 2) (wrap64 (-wrap64 (bits .and .u64 (n:Int) 1)))=zag n:=by
 have e0:bits .and .u64 (n:Int) 1=((n%2:Nat):Int):=by
  have:=u64_and_nat n 1 h1 (by omega)
  rw [Nat.and_one_is_mod] at this
  exact this
 have e1:(n:Int) / 2=((n / 2:Nat):Int):=by omega
 rw [e0,e1]
 unfold zag
 by_cases h:n%2=0
 ·rw [if_pos h,h]
  have e2:wrap64 (-wrap64 ((0:Nat):Int))=0:=by unfold wrap64;omega
  rw [e2]
  show IntKind.i64.wrap ((BitVec.ofInt 64 ((n / 2:Nat):Int) ^^^ BitVec.ofInt 64 0).toNat:Int)=_
  rw [show BitVec.ofInt 64 0=0#64 from by decide,BitVec.xor_zero,ofInt_nat _ (by omega),IntKind.wrap_i64]
  omega
 ·have h2:n%2=1:=by omega
  rw [if_neg h,h2]
  have e2:wrap64 (-wrap64 ((1:Nat):Int)) = -1:=by unfold wrap64;omega
  rw [e2]
  show IntKind.i64.wrap ((BitVec.ofInt 64 ((n / 2:Nat):Int) ^^^ BitVec.ofInt 64 (-1)).toNat:Int)=_
  rw [ofInt_neg1,xor_ones,ofInt_nat _ (by omega),IntKind.wrap_i64]
  omega
theorem ret_i {k:IntKind} {a b:Int} (h:a=b):Ending.returned (.int k a)=.returned (.int k b):=by rw [h]
theorem zig_any (n:Int) (w:World) (h0 : -9223372036854775808≤n) (h1:n≤9223372036854775807):Calls Tryz.prog 175 #[.int .i64 n] w fun e w'=>e=.returned (.int .u64 (zig n))∧w=w':=by
 have HV:=Lib.hid (zig_val n h0 h1)
 go_enter Tryz.func175,Tryz.ntmps175
 go_wp2_with fail
 go_ret
 exact ⟨ret_i HV.out,rfl⟩
theorem unzig_any (n:Nat) (w:World) (h1:n<18446744073709551616):Calls Tryz.prog 204 #[.int .u64 n] w fun e w'=>e=.returned (.int .i64 (zag n))∧w=w':=by
 have HV:=Lib.hid (unzig_val n h1)
 go_enter Tryz.func204,Tryz.ntmps204
 go_wp2_with fail
 go_ret
 exact ⟨ret_i HV.out,rfl⟩
theorem putint_any (v:Value) (l:List UInt8) (n:Int) (w:World) (h0 : -9223372036854775808≤n) (h1:n≤9223372036854775807) (hr:BRow w v l) (hlen:l.length≤35184372088832) :
  Calls Tryz.prog 145 #[v,.int .i64 n] w (PutLeft w.heap.size (l++intL n) w):=by
 have k1:=fun W=>zig_any n W h0 h1
 have k2:=fun W (h:BRow W v l)=>put_any v l (zig n) W (zig_lt h0 h1) h hlen
 unfold intL
 generalize zig n=z at *
 have K1:=Lib.hid k1
 have K2:=Lib.hid k2
 have HR:=Lib.hid hr
 clear k1 k2 hr
 go_enter Tryz.func145,Tryz.ntmps145
 go_wp2_with fail
 refine (K1.out _).mono ?_
 rintro e w1 ⟨rfl,rfl⟩
 go_wp2_with fail
 refine (K2.out _ HR.out).mono ?_
 rintro e w1 ⟨v1,rfl,hown1,hb1⟩
 have HO:=Lib.hid hown1
 clear hown1
 go_wp2_with fail
 go_ret
 exact ⟨_,rfl,HO.out,hb1⟩
end Go.Proofs.YtdfibahafilklaaGreatDoor.VP
namespace Go.Proofs.YtdfibahafilklaaGreatDoor.VG
open Go.RowKit MM VM VP
theorem getint_in (B:Nat) (v:Value) (l:List UInt8) (w:World) (hr:BIn B w v l) (hB:B≤w.heap.size) :
  Calls Tryz.prog 188 #[v] w (GotIn B (.int .i64 (getI l).1) (getI l).2.2 (restL l) w):=by
 have hb:=(getL_bounds l).1
 have k1:=get_in B v l w hr hB
 have k2:=fun W=>unzig_any (getL l).1 W hb
 unfold getI
 generalize (getL l).1=n at *
 generalize (getL l).2.1=k at *
 generalize (getL l).2.2=e0 at *
 generalize restL l=R at *
 have K1:=Lib.hid k1
 have K2:=Lib.hid k2
 clear k1 k2 hr hb
 go_enter Tryz.func188,Tryz.ntmps188
 go_wp2_with fail
 refine K1.out.mono ?_
 rintro e w1 ⟨v1,rfl,hrow,hb1⟩
 have HR:=Lib.hid hrow
 clear hrow
 go_wp2_with fail
 refine (K2.out _).mono ?_
 rintro e w2 ⟨rfl,rfl⟩
 go_wp2_with fail
 go_ret3
 exact ⟨_,rfl,HR.out,hb1⟩
end Go.Proofs.YtdfibahafilklaaGreatDoor.VG
