import Derived.Test.YtdfibahafilklaaGreatDoorZB27
import Derived.Test.YtdfibahafilklaaGreatDoorZB5
set_option maxRecDepth 100000
set_option maxHeartbeats 8000000
set_option linter.unusedVariables false
set_option linter.unusedSimpArgs false
namespace Go.Proofs.YtdfibahafilklaaGreatDoor.VP
open Go.RowKit MM VM
theorem bitLen_small (n:Nat) (h:n<128):Lib.bitLen n≤7:=by
 by_cases h0:n=0
 ·subst h0;decide
 ·have:=Lib.bitLenAux_bounds 64 n (by omega) h0
  have h2:2^(Lib.bitLen n - 1)<2^7:=by
   have:=this.2.1
   unfold Lib.bitLen
   omega
  have:=(Nat.pow_lt_pow_iff_right (a:=2) (by omega)).1 h2
  omega
theorem bitLen_pos (n:Nat) (h0:n≠0) (h:n<18446744073709551616):1≤Lib.bitLen n:=(Lib.bitLenAux_bounds 64 n h h0).1
theorem size_eq (n:Nat):n<18446744073709551616→max 1 ((Lib.bitLen n+6) / 7)=(bytesL n).length:=by
 refine rec128 (P:=fun n=>n<18446744073709551616→max 1 ((Lib.bitLen n+6) / 7)=(bytesL n).length) ?_ ?_ n
 ·intro n h hn
  have:=bitLen_small n h
  rw [bytesL_small h,List.length_singleton]
  omega
 ·intro n h ih hn
  have h1:=Lib.bitLen_shift 7 n (by omega) hn
  have h2:=bitLen_pos (n / 128) (by omega) (by omega)
  have h3:=ih (by omega)
  rw [bytesL_big h hn,List.length_cons,← h3,h1,show (2:Nat)^7=128 from rfl]
  omega
theorem size_any (n:Nat) (w:World) (hn:n<18446744073709551616):Calls Tryz.prog 144 #[.int .u64 n] w fun e w'=>e=.returned (.int .i64 ((bytesL n).length:Int))∧w=w':=by
 have hl:=Tryz.bits_Len64 n w (by omega) (by omega)
 rw [Int.toNat_natCast] at hl
 have hs:=size_eq n hn
 have hb:Lib.bitLen n≤70:=by have:=(bytesL_length n).2;omega
 obtain ⟨B,hB⟩:∃ B,Lib.bitLen n=B:=⟨_,rfl⟩
 rw [hB] at hl hb hs
 have HL:=Lib.hid hl
 have HS:=Lib.hid hs
 clear hl hs hB
 go_enter Tryz.func144,Tryz.ntmps144
 go_wp2_with fail
 refine HL.out.mono ?_
 rintro e w' ⟨rfl,rfl⟩
 go_wp2_with fail
 go_ret
 have e:max 1 (((B:Int)+6) / 7)=((max 1 ((B+6) / 7):Nat):Int):=by omega
 rw [← HS.out,← e]
 exact ⟨rfl,rfl⟩
theorem put_any (v:Value) (l:List UInt8) (n:Nat) (w:World) (hn:n<18446744073709551616) (hr:BRow w v l) (hlen:l.length≤35184372088832) :
  Calls Tryz.prog 101 #[v,.int .u64 n] w (PutLeft w.heap.size (l++bytesL n) w):=by
 have hbl:=bytesL_length n
 have k1:=fun W=>size_any n W hn
 have k2:=fun W (h:BRow W v l)=>room_any v l ((bytesL n).length:Int) _ W rfl h (by omega)
 obtain ⟨L,hL⟩:∃ L,(bytesL n).length=L:=⟨_,rfl⟩
 simp only [hL] at k1 k2
 have k3:=fun B u W (h:OwnB B W u l) hB=>app_any B u l n W hn h (by omega) hB
 have K1:=Lib.hid k1
 have K2:=Lib.hid k2
 have K3:=Lib.hid k3
 have HR:=Lib.hid hr
 clear k1 k2 k3 hr hL hbl
 go_enter Tryz.func101,Tryz.ntmps101
 go_wp2_with fail
 refine (K1.out _).mono ?_
 rintro e w1 ⟨rfl,rfl⟩
 go_wp2_with fail
 refine (K2.out _ HR.out).mono ?_
 rintro e w1 ⟨v1,rfl,hown1,hb1⟩
 have hsz:=hb1.size
 have HO:=Lib.hid hown1
 clear hown1
 go_wp2_with fail
 refine (K3.out _ _ _ HO.out hsz).mono ?_
 rintro e w2 ⟨v2,rfl,hown2,hb2⟩
 have HO2:=Lib.hid hown2
 clear hown2
 go_wp2_with fail
 go_ret
 exact ⟨_,rfl,HO2.out,hb1.trans hb2⟩
end Go.Proofs.YtdfibahafilklaaGreatDoor.VP
