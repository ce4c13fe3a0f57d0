import Derived.Test.YtdfibahafilklaaGreatDoorZB3
import Derived.Lib.VarintBits
set_option maxRecDepth 100000
set_option maxHeartbeats 8000000
set_option linter.unusedVariables false
set_option linter.unusedSimpArgs false
namespace Go.Proofs.YtdfibahafilklaaGreatDoor.VP
open Go.RowKit MM VM
theorem or128 (m:Nat):bits .or .u8 ((m:Int)%256) 128=((m%128+128:Nat):Int):=by
 have h:∀ x:Nat,x<256→x ||| 128=x%128+128:=by decide
 rw [u8_or _ _ (by omega) (by omega) (by omega) (by omega)]
 rw [show ((m:Int)%256).toNat=m%256 by omega,show (128:Int).toNat=128 from rfl,h _ (by omega)]
 omega
theorem cells_of {m:Nat} (h:m<256):Lib.byteCells [UInt8.ofNat m]=[.int .u8 (m:Int)]:=by
 show [Value.int .u8 ((UInt8.ofNat m).toNat:Int)]=_
 rw [toNat_small h]
theorem own_more {B:Nat} {w:World} {v:Value} {l:List UInt8} {m:Nat} (hm:m<256) (h:w.ownsRow B 5 1 v (l.length+1) (Lib.byteCells l++[.int .u8 (m:Int)])):OwnB B w v (l++[UInt8.ofNat m]):=by
 unfold OwnB
 rw [List.length_append,byteCells_append,cells_of hm]
 exact h
theorem app_any (B:Nat) (v:Value) (l:List UInt8) (n:Nat) (w:World) (hn:n<18446744073709551616) (hown:OwnB B w v l) (hlen:l.length≤70368744177664) (hB:B≤w.heap.size) :
  Calls Tryz.prog 142 #[v,.int .u64 n] w (PutLeft B (l++bytesL n) w):=by
 obtain ⟨i0,hi,hz0,hz1,hz2⟩:=info_parts infoByte
 obtain ⟨all,hall⟩:∃ all,l++bytesL n=all:=⟨_,rfl⟩
 rw [hall]
 have HA0:Hid (l++bytesL n=all):=Lib.hid hall
 have HO0:Hid (OwnB B w v l):=Lib.hid hown
 clear hall hown
 go_enter Tryz.func142,Tryz.ntmps142
 go_wp2_with fail
 go_loopw [0,1] (fun u z wr=>∃ (acc:List UInt8) (m:Nat),z=.int .u64 m∧m<18446744073709551616∧acc.length+(bytesL m).length≤l.length+10∧Hid (OwnB B wr u acc)∧Below B w wr∧Hid (acc++bytesL m=all)) (fun _ z _=>(intOf z).toNat)
 case atStart=>exact ⟨l,n,rfl,hn,by have:=(bytesL_length n).2;omega,HO0,Below.refl _ _,HA0⟩
 case round =>
  obtain ⟨acc,m,rfl,hm,hlen2,HO,hb,HA⟩:=hrel
  clear HA0 HO0
  have hsz:=hb.size
  have hown:wr.ownsRow B 5 1 _ acc.length (Lib.byteCells acc):=HO.out
  have hlo:=fun j hj=>(hown.lt j hj).1
  have HL:=Lib.hid hlo
  clear hlo HO
  have hBw:B≤wr.heap.size:=by omega
  by_cases h:m<128
  ·have ha:=HA.out
   rw [bytesL_small h] at ha
   have HA2:=Lib.hid ha
   clear ha HA
   go_wp2_with (at_builtin;refine wpList_append_own _ rfl _ _ 31 rfl B 5 i0 (.int .u8 0) 1 1 Tryz.underlying31 hi hz0 hz1 hz2 rfl (by decide) _ _ _ rfl (hown.alloc _) ⟨wr.heap.size,0,none⟩ 1 1 [.int .u8 (m:Int)] rfl rfl (cell_new1 _ _ _) (int_one _ _) (by unfold maxLen;omega) (by omega) (by simp;omega) ?_)
   intro v1 w1 hown2 hgrow hnil1
   have hb':=below_app hb hBw HL.out hgrow
   have HO2:=Lib.hid (own_more (by omega) hown2)
   clear hown2 hgrow hnil1 hown
   go_wp2_with fail
   go_ret
   exact ⟨_,rfl,HA2.out▸HO2.out,hb'⟩
  ·have ha:=HA.out
   rw [bytesL_big h hm,List.append_cons] at ha
   have HA2:=Lib.hid ha
   rw [bytesL_big h hm,List.length_cons] at hlen2
   have hm1:m%128+128<256:=by omega
   have hor:=or128 m
   clear ha HA
   go_wp2_with (at_builtin;refine wpList_append_own _ rfl _ _ 31 rfl B 5 i0 (.int .u8 0) 1 1 Tryz.underlying31 hi hz0 hz1 hz2 rfl (by decide) _ _ _ rfl (hown.alloc _) ⟨wr.heap.size,0,none⟩ 1 1 [.int .u8 ((m%128+128:Nat):Int)] rfl rfl (cell_new1 _ _ _) (int_one _ _) (by unfold maxLen;omega) (by omega) (by simp;omega) ?_)
   intro v1 w1 hown2 hgrow hnil1
   have hb':=below_app hb hBw HL.out hgrow
   have HO2:Hid (OwnB B w1 v1 (acc++[UInt8.ofNat (m%128+128)])):=Lib.hid (own_more hm1 hown2)
   clear hown2 hgrow hnil1 hown hor
   go_wp2_with fail
   go_roundw
   case rel=>exact ⟨_,m / 128,by go_num,by omega,by rw [List.length_append,List.length_singleton];omega,HO2,hb',HA2⟩
   case measure=>simp [intOf];omega
theorem own_byte {w:World} {B:Nat} {m:Nat} (hm:m<256) (hB:B≤w.heap.size):OwnB B (w.alloc (.cells #[.int .u8 (m:Int)] 5)) (.slice (some ⟨w.heap.size,0,none⟩) 1 1) [UInt8.ofNat m]:=by
 unfold OwnB
 rw [cells_of hm]
 exact own_lit w [.int .u8 (m:Int)] 5 B hB (by unfold maxLen;simp)
theorem room_any (v:Value) (l:List UInt8) (m:Int) (k:Nat) (w:World) (hm:m=(k:Int)) (hr:BRow w v l) (hlen:l.length+k≤70368744177664) :
  Calls Tryz.prog 143 #[v,.int .i64 m] w (PutLeft w.heap.size l w):=by
 subst hm
 obtain ⟨p,cap,rfl,hlc,hcm⟩:=hr.shape
 unfold maxLen at hcm
 have HR:=Lib.hid hr
 clear hr
 go_enter Tryz.func143,Tryz.ntmps143
 go_wp2_with (at_make;refine wpList_make_bytes rfl _ rfl w.heap.size _ (l.length+k) rfl (by omega) (by omega) (Nat.le_refl _) ?_)
 intro v1 w1 hown hb
 have hsz:=hb.size
 have HO:=Lib.hid hown
 clear hown
 go_wp2_with (at_builtin;refine wpList_append_bytes rfl _ _ rfl w.heap.size _ [] rfl HO.out _ l rfl (HR.out.below hb) (by simp;omega) hsz ?_)
 intro v2 w2 hown2 hb2
 have HO2:=Lib.hid hown2
 clear hown2
 go_wp2_with fail
 go_ret
 exact ⟨_,rfl,HO2.out,hb.trans hb2⟩
theorem rbytes_any (n:Nat):∀ (w:World),n<18446744073709551616→Calls Tryz.prog 104 #[.int .u64 n] w (PutLeft w.heap.size (bytesL n) w):=by
 refine rec128 (P:=fun n=>∀ (w:World),n<18446744073709551616→Calls Tryz.prog 104 #[.int .u64 n] w (PutLeft w.heap.size (bytesL n) w)) ?_ ?_ n
 ·intro n h w hn
  rw [bytesL_small h]
  have hown:=own_byte (w:=w) (B:=w.heap.size) (m:=n) (by omega) (Nat.le_refl _)
  have HO:=Lib.hid hown
  clear hown
  go_enter Tryz.func104,Tryz.ntmps104
  go_wp2_with fail
  go_ret
  exact ⟨_,rfl,HO.out,(Below.refl _ _).alloc (Nat.le_refl _) _⟩
 ·intro n h ih w hn
  rw [bytesL_big h hn]
  have hown:=own_byte (w:=w) (B:=w.heap.size) (m:=n%128+128) (by omega) (Nat.le_refl _)
  rw [show ((n%128+128:Nat):Int)=(n:Int)%128+128 by omega] at hown
  generalize UInt8.ofNat (n%128+128)=c at hown ⊢
  have HO:=Lib.hid hown
  have HI:=Lib.hid ih
  clear hown ih
  go_enter Tryz.func104,Tryz.ntmps104
  go_wp2_with fail
  rw [show (n:Int) / 128=((n / 128:Nat):Int) by omega]
  refine (HI.out _ (by omega)).mono ?_
  rintro e w1 ⟨v1,rfl,hown1,hb1⟩
  have hsz:=hb1.size
  have hk:=HO.out.keep hb1
  have HK:=Lib.hid hk
  have HR:=Lib.hid hown1.brow
  have hb:Below w.heap.size w w1:=((Below.refl _ _).alloc (Nat.le_refl _) _).trans (hb1.mono (by simp))
  have hsz2:=hb.size
  have hl:=(bytesL_length (n / 128)).2
  clear hown1 hk
  go_wp2_with (at_builtin;refine wpList_append_bytes rfl _ _ rfl w.heap.size _ _ rfl HK.out _ _ rfl HR.out (by simp;omega) hsz2 ?_)
  intro v2 w2 hown2 hb2
  have HO2:=Lib.hid hown2
  clear hown2
  go_wp2_with fail
  go_ret
  exact ⟨_,rfl,HO2.out,hb.trans hb2⟩
end Go.Proofs.YtdfibahafilklaaGreatDoor.VP
