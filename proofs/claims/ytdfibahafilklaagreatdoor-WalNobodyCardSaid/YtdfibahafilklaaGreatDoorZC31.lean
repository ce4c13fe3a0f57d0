import Derived.Test.YtdfibahafilklaaGreatDoorZC30
import Derived.Test.YtdfibahafilklaaGreatDoorZC7
import Derived.Test.YtdfibahafilklaaGreatDoorZC5
set_option maxRecDepth 100000
set_option maxHeartbeats 8000000
set_option linter.unusedVariables false
set_option linter.unusedSimpArgs false
namespace Go.Proofs.YtdfibahafilklaaGreatDoor.VG
open Go.RowKit MM VM
end Go.Proofs.YtdfibahafilklaaGreatDoor.VG
namespace Go.Proofs.YtdfibahafilklaaGreatDoor.VP
open Go.RowKit MM VM
theorem bitLen_small (n:Nat) (h:n<128):Lib.bitLen n≤7:=by
 by_cases h0:n=0
 ·subst h0;decide
 ·have:=Lib.bitLenAux_bounds 64 n (by omega) h0
  have h2:2^(Lib.bitLen n - 1)<2^7:=by
   have:=this.2.1
   unfold Lib.bitLen
   omega
  have:=(Nat.pow_lt_pow_iff_right (a:=2) (by omega)).1 h2
  omega
theorem bitLen_pos (n:Nat) (h0:n≠0) (h:n<18446744073709551616):1≤Lib.bitLen n:=(Lib.bitLenAux_bounds 64 n h h0).1
theorem size_eq (n:Nat):n<18446744073709551616→max 1 ((Lib.bitLen n+6) / 7)=(bytesL n).length:=by
 refine rec128 (P:=fun n=>n<18446744073709551616→max 1 ((Lib.bitLen n+6) / 7)=(bytesL n).length) ?_ ?_ n
 ·intro n h hn
  have:=bitLen_small n h
  rw [bytesL_small h,List.length_singleton]
  omega
 ·intro n h ih hn
  have h1:=Lib.bitLen_shift 7 n (by omega) hn
  have h2:=bitLen_pos (n / 128) (by omega) (by omega)
  have h3:=ih (by omega)
  rw [bytesL_big h hn,List.length_cons,← h3,h1,show (2:Nat)^7=128 from rfl]
  omega
theorem size_any (n:Nat) (w:World) (hn:n<18446744073709551616):Calls Tryz.prog 144 #[.int .u64 n] w fun e w'=>e=.returned (.int .i64 ((bytesL n).length:Int))∧w=w':=by
 have hl:=Tryz.bits_Len64 n w (by omega) (by omega)
 rw [Int.toNat_natCast] at hl
 have hs:=size_eq n hn
 have hb:Lib.bitLen n≤70:=by have:=(bytesL_length n).2;omega
 obtain ⟨B,hB⟩:∃ B,Lib.bitLen n=B:=⟨_,rfl⟩
 rw [hB] at hl hb hs
 have HL:=Lib.hid hl
 have HS:=Lib.hid hs
 clear hl hs hB
 go_enter Tryz.func144,Tryz.ntmps144
 go_wp2_with fail
 refine HL.out.mono ?_
 rintro e w' ⟨rfl,rfl⟩
 go_wp2_with fail
 go_ret
 have e:max 1 (((B:Int)+6) / 7)=((max 1 ((B+6) / 7):Nat):Int):=by omega
 rw [← HS.out,← e]
 exact ⟨rfl,rfl⟩
theorem put_any (v:Value) (l:List UInt8) (n:Nat) (w:World) (hn:n<18446744073709551616) (hr:BRow w v l) (hlen:l.length≤35184372088832) :
  Calls Tryz.prog 101 #[v,.int .u64 n] w (PutLeft w.heap.size (l++bytesL n) w):=by
 have hbl:=bytesL_length n
 have k1:=fun W=>size_any n W hn
 have k2:=fun W (h:BRow W v l)=>room_any v l ((bytesL n).length:Int) _ W rfl h (by omega)
 obtain ⟨L,hL⟩:∃ L,(bytesL n).length=L:=⟨_,rfl⟩
 simp only [hL] at k1 k2
 have k3:=fun B u W (h:OwnB B W u l) hB=>app_any B u l n W hn h (by omega) hB
 have K1:=Lib.hid k1
 have K2:=Lib.hid k2
 have K3:=Lib.hid k3
 have HR:=Lib.hid hr
 clear k1 k2 k3 hr hL hbl
 go_enter Tryz.func101,Tryz.ntmps101
 go_wp2_with fail
 refine (K1.out _).mono ?_
 rintro e w1 ⟨rfl,rfl⟩
 go_wp2_with fail
 refine (K2.out _ HR.out).mono ?_
 rintro e w1 ⟨v1,rfl,hown1,hb1⟩
 have hsz:=hb1.size
 have HO:=Lib.hid hown1
 clear hown1
 go_wp2_with fail
 refine (K3.out _ _ _ HO.out hsz).mono ?_
 rintro e w2 ⟨v2,rfl,hown2,hb2⟩
 have HO2:=Lib.hid hown2
 clear hown2
 go_wp2_with fail
 go_ret
 exact ⟨_,rfl,HO2.out,hb1.trans hb2⟩
end Go.Proofs.YtdfibahafilklaaGreatDoor.VP
namespace Go.Proofs.YtdfibahafilklaaGreatDoor.FP
open Go.RowKit MM VM CM FM VP CR
theorem own_nil (B:Nat) (w:World):OwnB B w (.slice none 0 0) []:=World.ownsRow_nil _ _ _ _
theorem prow_two {w:World} {v u:Value} {l m:List UInt8} (h:BRow w v l) (k:BRow w u m):PRow (w.alloc (.cells #[v,u] 31)) (.slice (some ⟨w.heap.size,0,none⟩) 2 2) [l,m] :=
 prow_lit [v,u] [l,m] rfl (by unfold maxLen;simp) (fun i hi=>by
  match i,hi with
  | 0,_=>exact ⟨v,rfl,h⟩
  | 1,_=>exact ⟨u,rfl,k⟩)
theorem flat_two (l m:List UInt8):[l,m].flatten=l++m:=by simp
theorem lit_sum (w:World) (s:Nat) (hs:s<4294967296):BRow (w.alloc (.cells #[.int .u8 ((s:Int) / 16777216),.int .u8 ((s:Int) / 65536%256),.int .u8 ((s:Int) / 256%256),.int .u8 ((s:Int)%256)] 5)) (.slice (some ⟨w.heap.size,0,none⟩) 4 4) (sumB s):=by
 have h:=own_lit w (Lib.byteCells (sumB s)) 5 0 (Nat.zero_le _) (by rw [byteCells_len];unfold maxLen;simp [sumB])
 have e:Lib.byteCells (sumB s)=[.int .u8 ((s:Int) / 16777216),.int .u8 ((s:Int) / 65536%256),.int .u8 ((s:Int) / 256%256),.int .u8 ((s:Int)%256)]:=by
  simp only [Lib.byteCells,sumB,List.map_cons,List.map_nil,UInt8.toNat_ofNat']
  rw [show ((s / 16777216%2^8:Nat):Int)=(s:Int) / 16777216 by omega,show ((s / 65536%2^8:Nat):Int)=(s:Int) / 65536%256 by omega,show ((s / 256%2^8:Nat):Int)=(s:Int) / 256%256 by omega,show ((s%2^8:Nat):Int)=(s:Int)%256 by omega]
 have hb:=BRow.of_own (l:=sumB s) h
 rw [e] at hb
 exact hb
end Go.Proofs.YtdfibahafilklaaGreatDoor.FP
namespace Go.Proofs.YtdfibahafilklaaGreatDoor.FP
open Go.RowKit MM VM CM FM VP CR
theorem cell_lt {w:World} {b o:Nat} {v:Value} (h:w.cell? ⟨b,o,none⟩=some v):b<w.heap.size:=by
 by_cases hb:b<w.heap.size
 ·exact hb
 ·simp [World.cell?,Array.getElem?_eq_none (Nat.le_of_not_lt hb)] at h
def PutsLeft (B:Nat) (l:List UInt8) (w:World) (e:Ending) (w':World):Prop:=∃ v',e=.returned (.tuple #[v',.int .i64 0])∧OwnB B w' v' l∧Below B w w'
end Go.Proofs.YtdfibahafilklaaGreatDoor.FP
namespace Go.Proofs.YtdfibahafilklaaGreatDoor.FP
open Go.RowKit MM VM CM FM VP CR
open Go.RowKit MM VM CM FM VP CR
theorem clone_any (v:Value) (l:List UInt8) (w:World) (hr:BRow w v l) (hlen:l.length≤140737488355328):Calls Tryz.prog 132 #[v] w (PutLeft w.heap.size l w):=by
 have hr0:RowIn w.heap.size w v (Lib.byteCells l):=hr
 obtain ⟨p,cap,rfl,h1,h2,h3,h⟩:=hr0
 rw [byteCells_len]
 rw [byteCells_len] at h1
 cases p with
 | none =>
   have h0:=h3 rfl
   have hl:l=[]:=List.eq_nil_of_length_eq_zero (by omega)
   subst hl
   refine (Tryz.bytes_Clone_nil _ cap w).mono ?_
   rintro e w' ⟨rfl,rfl⟩
   exact ⟨_,rfl,own_nil _ _,Below.refl _ _⟩
 | some a =>
   refine (Tryz.bytes_Clone_at a l.length cap (l.map (fun c=>(c.toNat:Int))) w (by rw [List.length_map]) hlen (fun i hi => ?_)).mono ?_
   ·rcases h with h | ⟨b,off,hp,_,hc⟩
    ·have:=byteCells_len l;rw [h] at this;simp at this;omega
    ·injection hp with hp
     subst hp
     rw [add_at,hc i _ (byteCells_get l i hi)]
     simp [List.getD,List.getElem?_eq_getElem hi]
   ·rintro e w' ⟨v',rfl,hown,_,hb⟩
    refine ⟨v',rfl,?_,hb⟩
    unfold OwnB
    have e:(l.map (fun c=>(c.toNat:Int))).map (Value.int .u8)=Lib.byteCells l:=by simp [Lib.byteCells]
    rw [e] at hown
    exact hown
theorem size_fr (n:Int) (w:World) (h0 : -9223372036854775808≤n) (h1:n≤9223372036854775807):Calls Tryz.prog 147 #[.int .i64 n] w fun e w'=>e=.returned (.int .i64 (sizeL n))∧w=w':=by
 by_cases hn:n<0∨16777216<n
 ·have e:sizeL n=0:=by unfold sizeL;rw [if_pos hn]
  rw [e]
  clear e
  by_cases hneg:n<0
  ·have t1:decide (n<0)=true:=by simp [hneg]
   go_enter Tryz.func147,Tryz.ntmps147
   go_wp2_with fail
   go_ret
   exact ⟨rfl,rfl⟩
  ·have t1:decide (n<0)=false:=by simp;omega
   have t2:decide (n>16777216)=true:=by simp;omega
   go_enter Tryz.func147,Tryz.ntmps147
   go_wp2_with fail
   go_ret
   exact ⟨rfl,rfl⟩
 ·obtain ⟨m,rfl⟩:=Int.eq_ofNat_of_zero_le (show 0≤n by omega)
  have hm:m≤16777216:=by omega
  have e:=sizeL_nat hm
  have k:=fun W=>size_any m W (by omega)
  have hb:=bytesL_length m
  generalize (bytesL m).length=L at *
  have HE:=Lib.hid e
  have HK:=Lib.hid k
  have t1:decide ((m:Int)<0)=false:=by simp
  have t2:decide ((m:Int)>16777216)=false:=by simp;omega
  clear e k hn
  go_enter Tryz.func147,Tryz.ntmps147
  go_wp2_with fail
  refine (HK.out _).mono ?_
  rintro e w1 ⟨rfl,rfl⟩
  go_wp2_with fail
  go_ret
  rw [HE.out]
  exact ⟨by go_num,rfl⟩
theorem appf_any (B:Nat) (v u:Value) (l p:List UInt8) (w:World) (hown:OwnB B w v l) (hp:BIn B w u p) (hpl:p.length≤16777216) (hlen:l.length+(frameL p).length≤70368744177664) (hB:B≤w.heap.size) :
  Calls Tryz.prog 148 #[v,u] w (PutLeft B (l++frameL p) w):=by
 obtain ⟨q,cap,rfl,hc,hm⟩:=hp.shape
 have k1:=fun W=>put_any (.slice none 0 0) [] p.length W (by omega) (BRow.nil_ W) (by simp)
 rw [List.nil_append] at k1
 have k2:=fun W v1 (h1:BRow W v1 (bytesL p.length)) (h2:BRow W (.slice q p.length cap) p)=>sum_any _ _ _ (prow_two h1 h2)
 simp only [flat_two] at k2
 have hfl:=frameL_length p
 have hs:=sumL_lt (bytesL p.length++p)
 have hsl:=sumB_length (sumL (bytesL p.length++p))
 have hfe:l++frameL p=((l++bytesL p.length)++sumB (sumL (bytesL p.length++p)))++p:=by unfold frameL;simp
 rw [hfe]
 clear hfe
 generalize hS:sumL (bytesL p.length++p)=S at *
 generalize bytesL p.length=H at *
 have hl1:l.length+H.length≤140737488355328:=by omega
 have hl2:(l++H).length+(sumB S).length≤140737488355328:=by rw [List.length_append,hsl];omega
 have hl3:(l++H++sumB S).length+p.length≤140737488355328:=by rw [List.length_append,List.length_append,hsl];omega
 have hlit:=fun W=>lit_sum W S hs
 generalize sumB S=Z at *
 obtain ⟨X1,hX1⟩:∃ X,l++H=X:=⟨_,rfl⟩
 obtain ⟨X2,hX2⟩:∃ X,X1++Z=X:=⟨_,rfl⟩
 obtain ⟨X3,hX3⟩:∃ X,X2++p=X:=⟨_,rfl⟩
 rw [hX1,hX2] at hl3
 rw [hX1] at hl2
 rw [hX1,hX2,hX3]
 have HX1:=Lib.hid hX1
 have HX2:=Lib.hid hX2
 have HX3:=Lib.hid hX3
 have K1:=Lib.hid k1
 have K2:=Lib.hid k2
 have HP:=Lib.hid hp
 have HO:=Lib.hid hown
 have HL:=Lib.hid hlit
 clear k1 k2 hp hown hlit hfl hsl hlen hS hX1 hX2 hX3
 go_enter Tryz.func148,Tryz.ntmps148
 go_wp2_with fail
 refine (K1.out _).mono ?_
 rintro e w1 ⟨v1,rfl,hown1,hb1⟩
 obtain ⟨q1,cap1,rfl,hc1,hm1⟩:=hown1.brow.shape
 have H1:=Lib.hid hown1.brow
 have HP1:=Lib.hid ((HP.out.below (hb1.mono hB)).row (by have:=hb1.size;omega))
 have hba:Below w1.heap.size w1 (w1.alloc (.cells #[.slice q1 H.length cap1,.slice q p.length cap] 31)):=(Below.refl _ _).alloc (Nat.le_refl _) _
 have hb2:=grow hb1 hba
 clear hown1
 go_wp2_with fail
 refine (K2.out _ _ H1.out HP1.out).mono ?_
 rintro e w2 ⟨rfl,hb3⟩
 have hb4:=grow hb2 hb3
 have H2:=Lib.hid (H1.out.below (grow hba hb3))
 have HO2:=Lib.hid (HO.out.keep hb4)
 have hsz:=hb4.size
 clear hb1 hba hb2 hb3 HO
 go_wp2_with (at_builtin;refine wpList_append_bytes rfl _ _ rfl B _ l rfl HO2.out _ H rfl H2.out hl1 (by omega) ?_)
 intro v3 w3 hown3 hb5
 have hb6:Below B w w3:=(hb4.mono hB).trans hb5
 have hsz2:=hb6.size
 have hsz2':B≤w3.heap.size:=by omega
 rw [HX1.out] at hown3
 have hlo:=OwnB.keep hown3 ((Below.refl w3.heap.size w3).alloc (Nat.le_refl _) (.cells #[.int .u8 ((S:Int) / 16777216),.int .u8 ((S:Int) / 65536%256),.int .u8 ((S:Int) / 256%256),.int .u8 ((S:Int)%256)] 5))
 have hb7:=hb6.alloc hsz2' (.cells #[.int .u8 ((S:Int) / 16777216),.int .u8 ((S:Int) / 65536%256),.int .u8 ((S:Int) / 256%256),.int .u8 ((S:Int)%256)] 5)
 have hsz3:=hb7.size
 have HO4:=Lib.hid hlo
 clear hown3 hlo
 go_wp2_with (at_builtin;refine wpList_append_bytes rfl _ _ rfl B _ X1 rfl HO4.out _ Z rfl (HL.out w3) hl2 (by omega) ?_)
 intro v4 w4 hown4 hb8
 have hb9:=hb7.trans hb8
 have hsz4:=hb9.size
 rw [HX2.out] at hown4
 have HO5:=Lib.hid hown4
 have HP4:=Lib.hid ((HP.out.below hb9).row (by omega))
 clear hown4
 go_wp2_with (at_builtin;refine wpList_append_bytes rfl _ _ rfl B _ X2 rfl HO5.out _ p rfl HP4.out hl3 (by omega) ?_)
 intro v5 w5 hown5 hb10
 rw [HX3.out] at hown5
 have HO6:=Lib.hid hown5
 clear hown5
 go_wp2_with fail
 go_ret
 exact ⟨_,rfl,HO6.out,hb9.trans hb10⟩
end Go.Proofs.YtdfibahafilklaaGreatDoor.FP
