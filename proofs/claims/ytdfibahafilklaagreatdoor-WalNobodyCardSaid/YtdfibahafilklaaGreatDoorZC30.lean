import Derived.Test.YtdfibahafilklaaGreatDoorZC1
import Derived.Test.YtdfibahafilklaaGreatDoorZC3
import Derived.Lib.VarintBits
set_option maxRecDepth 100000
set_option maxHeartbeats 8000000
set_option linter.unusedVariables false
set_option linter.unusedSimpArgs false
namespace Go.Proofs.YtdfibahafilklaaGreatDoor.VG
open Go.RowKit MM VM
def restL (l:List UInt8):List UInt8:=if (getL l).2.2=0 then l.drop (getL l).2.1 else []
def GotIn (B:Nat) (x:Value) (er:Int) (rest:List UInt8) (w:World) (e:Ending) (w':World):Prop :=
 ∃ v',e=.returned (.tuple #[x,v',.int .i64 er])∧BIn B w' v' rest∧Below w.heap.size w w'
theorem code_val (n k c:Nat) (hn:n<2^(7*k)) (hc:c<256) (hf:n+c%128*2^(7*k)<18446744073709551616) :
  bits .or .u64 (n:Int) (IntKind.u64.wrap (IntKind.u64.wrap (bits .and .u8 (c:Int) 127)*2^(7*k)))=((n+c%128*2^(7*k):Nat):Int):=by
 have e1:bits .and .u8 (c:Int) 127=((c%128:Nat):Int):=by rw [u8_and127 (x:=(c:Int)) (by omega) (by omega)];omega
 have e2:IntKind.u64.wrap ((c%128:Nat):Int)=((c%128:Nat):Int):=by rw [IntKind.wrap_u64];omega
 have e3:((c%128:Nat):Int)*2^(7*k)=((c%128*2^(7*k):Nat):Int):=by
  rw [Int.natCast_mul,Int.natCast_pow];rfl
 have hf2:c%128*2^(7*k)<18446744073709551616:=by omega
 have e4:IntKind.u64.wrap ((c%128*2^(7*k):Nat):Int)=((c%128*2^(7*k):Nat):Int):=by rw [IntKind.wrap_u64];omega
 rw [e1,e2,e3,e4,u64_or_nat _ _ (by omega) hf2,Nat.or_comm,Nat.mul_comm (c%128),← Nat.two_pow_add_eq_or_of_lt hn,Nat.add_comm]
theorem drop_cons {l:List UInt8} {k:Nat} (h:k<l.length):l.drop k=l[k]::l.drop (k+1):=List.drop_eq_getElem_cons h
theorem get_in (B:Nat) (v:Value) (l:List UInt8) (w:World) (hr:BIn B w v l) (hB:B≤w.heap.size) :
  Calls Tryz.prog 129 #[v] w (GotIn B (.int .u64 (getL l).1) (getL l).2.2 (restL l) w):=by
 obtain ⟨p,cap,rfl,hlc,hcm⟩:=hr.shape
 unfold maxLen at hcm
 unfold restL
 obtain ⟨res,hres⟩:∃ res,getL l=res:=⟨_,rfl⟩
 have HG0:Hid (getF 0 0 (l.drop 0)=res):=Lib.hid hres
 rw [hres]
 obtain ⟨R,hR⟩:∃ R,(if res.2.2=0 then l.drop res.2.1 else [])=R:=⟨_,rfl⟩
 rw [hR]
 have HR:=Lib.hid hr
 have HE:=Lib.hid hR
 clear hr hres hR
 go_enter Tryz.func129,Tryz.ntmps129
 go_wp2_with fail
 go_step3
 go_wp2_with fail
 go_step3
 go_wp2_with fail
 go_loop [2,5,10] (fun acc size i=>∃ (k n:Nat),k≤l.length∧i=.int .i64 k∧size=.int .i64 0∧acc=.int .u64 n∧n<2^(7*k)∧k≤9∧Hid (getF k n (l.drop k)=res)) (fun _ _ i=>l.length - (intOf i).toNat)
 case atStart=>exact ⟨0,0,by omega,rfl,rfl,rfl,by omega,by omega,HG0⟩
 case round =>
  obtain ⟨k,n,hk,rfl,rfl,rfl,hn,hk9,hG⟩:=hrel
  clear HG0
  by_cases hlt:k<l.length
  ·obtain ⟨b,off,rfl,hbl,hcell⟩:=(HR.out).at_ hlt
   have hg:=hG.out
   have hrow:=HR.out.drop2 (k+1) (by omega)
   rw [drop_cons hlt] at hg
   obtain ⟨c,hc⟩:∃ c,l[k]=c:=⟨_,rfl⟩
   rw [hc] at hg hcell
   have hcb:=c.toNat_lt
   clear hc hG
   by_cases hbad:(k=9∧1<c.toNat)∨(0<k∧c.toNat=0)
   ·rw [getF_bad hbad] at hg
    subst hg
    have hRn:R=[]:=by rw [← HE.out];rfl
    subst hRn
    clear HE hrow
    by_cases h9:k=9∧1<c.toNat
    ·obtain ⟨h9,h1⟩:=h9
     have t1:((k:Int) == 9)=true:=by simp;omega
     have t2:decide ((c.toNat:Int)>1)=true:=by simp;omega
     clear hbad h9
     go_wp2_with fail
     go_ret3
     exact ⟨_,rfl,BIn.nil_ _ w,Below.refl _ _⟩
    ·have h0:0<k:=by omega
     have t0:((c.toNat:Int) == 0)=true:=by simp;omega
     have t2:(c.toNat:Int)≤1:=by omega
     have t3:0<(k:Int):=by omega
     clear hbad h9
     by_cases h9:k=9
     ·have t1:((k:Int) == 9)=true:=by simp;omega
      clear h9
      go_wp2_with fail
      go_ret3
      exact ⟨_,rfl,BIn.nil_ _ w,Below.refl _ _⟩
     ·have t1:((k:Int) == 9)=false:=by simp;omega
      clear h9
      go_wp2_with fail
      go_ret3
      exact ⟨_,rfl,BIn.nil_ _ w,Below.refl _ _⟩
   ·have hfit:=gather_fits hn hk9 hbad
    have hval:=code_val n k c.toNat hn hcb hfit
    obtain ⟨V,hV⟩:∃ V,n+c.toNat%128*2^(7*k)=V:=⟨_,rfl⟩
    rw [hV] at hval
    by_cases hend:c.toNat<128
    ·rw [getF_end hbad hend,hV] at hg
     subst hg
     obtain rfl:l.drop (k+1)=R:=by rw [← HE.out];rfl
     have hi1:(k:Int)+1≤(l.length:Int):=by omega
     have hi2:(l.length:Int)≤(cap:Int):=by omega
     have hd:((k:Int)+1 == 0)=false:=by simp;omega
     have HRow:=Lib.hid hrow
     clear hrow hV HE hn hfit
     by_cases h9:k=9
     ·have t1:((k:Int) == 9)=true:=by simp;omega
      have t2:(c.toNat:Int)≤1:=by omega
      have t3:0<(k:Int):=by omega
      have t4:((c.toNat:Int) == 0)=false:=by simp;omega
      clear hbad h9
      go_wp2_with fail
      go_quiet (fail)
      go_wp2_with fail
      ·go_ret3
       exact ⟨_,rfl,(HRow.out.1 (by assumption)).drewN nq,MM.below_drewN (Below.refl _ _) nq⟩
      ·go_ret3
       exact ⟨_,rfl,(HRow.out.2 (by assumption)).drewN nq,MM.below_drewN (Below.refl _ _) nq⟩
     ·have t1:((k:Int) == 9)=false:=by simp;omega
      by_cases h0:0<k
      ·have t3:0<(k:Int):=by omega
       have t4:((c.toNat:Int) == 0)=false:=by simp;omega
       clear hbad h9
       go_wp2_with fail
       go_quiet (fail)
       go_wp2_with fail
       ·go_ret3
        exact ⟨_,rfl,(HRow.out.1 (by assumption)).drewN nq,MM.below_drewN (Below.refl _ _) nq⟩
       ·go_ret3
        exact ⟨_,rfl,(HRow.out.2 (by assumption)).drewN nq,MM.below_drewN (Below.refl _ _) nq⟩
      ·clear hbad h9
       go_wp2_with fail
       go_quiet (fail)
       go_wp2_with fail
       ·go_ret3
        exact ⟨_,rfl,(HRow.out.1 (by assumption)).drewN nq,MM.below_drewN (Below.refl _ _) nq⟩
       ·go_ret3
        exact ⟨_,rfl,(HRow.out.2 (by assumption)).drewN nq,MM.below_drewN (Below.refl _ _) nq⟩
    ·rw [getF_more hbad hend,hV] at hg
     have hn2:=gather_lt hn c.toNat
     rw [hV] at hn2
     have hk2:=gather_next hk9 hbad hend
     have HG2:=Lib.hid hg
     clear hg hV hrow hn hfit
     have h9:¬ k=9:=by omega
     have t1:((k:Int) == 9)=false:=by simp;omega
     by_cases h0:0<k
     ·have t3:0<(k:Int):=by omega
      have t4:((c.toNat:Int) == 0)=false:=by simp;omega
      clear hbad h9
      go_wp2_with fail
      go_round
      case rel=>exact ⟨k+1,V,by omega,by go_num,rfl,rfl,hn2,hk2,HG2⟩
      case measure=>simp [intOf];omega
     ·clear hbad h9
      go_wp2_with fail
      go_round
      case rel=>exact ⟨k+1,V,by omega,by go_num,rfl,rfl,hn2,hk2,HG2⟩
      case measure=>simp [intOf];omega
  ·obtain rfl:k=l.length:=by omega
   have hg:=hG.out
   rw [List.drop_length,getF_nil] at hg
   subst hg
   have hRn:R=[]:=by rw [← HE.out];rfl
   subst hRn
   clear HE hG
   go_wp2_with fail
   go_ret3
   exact ⟨_,rfl,BIn.nil_ _ w,Below.refl _ _⟩
end Go.Proofs.YtdfibahafilklaaGreatDoor.VG
namespace Go.Proofs.YtdfibahafilklaaGreatDoor.VP
open Go.RowKit MM VM
theorem or128 (m:Nat):bits .or .u8 ((m:Int)%256) 128=((m%128+128:Nat):Int):=by
 have h:∀ x:Nat,x<256→x ||| 128=x%128+128:=by decide
 rw [u8_or _ _ (by omega) (by omega) (by omega) (by omega)]
 rw [show ((m:Int)%256).toNat=m%256 by omega,show (128:Int).toNat=128 from rfl,h _ (by omega)]
 omega
theorem cells_of {m:Nat} (h:m<256):Lib.byteCells [UInt8.ofNat m]=[.int .u8 (m:Int)]:=by
 show [Value.int .u8 ((UInt8.ofNat m).toNat:Int)]=_
 rw [toNat_small h]
theorem own_more {B:Nat} {w:World} {v:Value} {l:List UInt8} {m:Nat} (hm:m<256) (h:w.ownsRow B 5 1 v (l.length+1) (Lib.byteCells l++[.int .u8 (m:Int)])):OwnB B w v (l++[UInt8.ofNat m]):=by
 unfold OwnB
 rw [List.length_append,byteCells_append,cells_of hm]
 exact h
theorem app_any (B:Nat) (v:Value) (l:List UInt8) (n:Nat) (w:World) (hn:n<18446744073709551616) (hown:OwnB B w v l) (hlen:l.length≤70368744177664) (hB:B≤w.heap.size) :
  Calls Tryz.prog 142 #[v,.int .u64 n] w (PutLeft B (l++bytesL n) w):=by
 obtain ⟨i0,hi,hz0,hz1,hz2⟩:=info_parts infoByte
 obtain ⟨all,hall⟩:∃ all,l++bytesL n=all:=⟨_,rfl⟩
 rw [hall]
 have HA0:Hid (l++bytesL n=all):=Lib.hid hall
 have HO0:Hid (OwnB B w v l):=Lib.hid hown
 clear hall hown
 go_enter Tryz.func142,Tryz.ntmps142
 go_wp2_with fail
 go_loopw [0,1] (fun u z wr=>∃ (acc:List UInt8) (m:Nat),z=.int .u64 m∧m<18446744073709551616∧acc.length+(bytesL m).length≤l.length+10∧Hid (OwnB B wr u acc)∧Below B w wr∧Hid (acc++bytesL m=all)) (fun _ z _=>(intOf z).toNat)
 case atStart=>exact ⟨l,n,rfl,hn,by have:=(bytesL_length n).2;omega,HO0,Below.refl _ _,HA0⟩
 case round =>
  obtain ⟨acc,m,rfl,hm,hlen2,HO,hb,HA⟩:=hrel
  clear HA0 HO0
  have hsz:=hb.size
  have hown:wr.ownsRow B 5 1 _ acc.length (Lib.byteCells acc):=HO.out
  have hlo:=fun j hj=>(hown.lt j hj).1
  have HL:=Lib.hid hlo
  clear hlo HO
  have hBw:B≤wr.heap.size:=by omega
  by_cases h:m<128
  ·have ha:=HA.out
   rw [bytesL_small h] at ha
   have HA2:=Lib.hid ha
   clear ha HA
   go_wp2_with (at_builtin;refine wpList_append_own _ rfl _ _ 31 rfl B 5 i0 (.int .u8 0) 1 1 Tryz.underlying31 hi hz0 hz1 hz2 rfl (by decide) _ _ _ rfl (hown.alloc _) ⟨wr.heap.size,0,none⟩ 1 1 [.int .u8 (m:Int)] rfl rfl (cell_new1 _ _ _) (int_one _ _) (by unfold maxLen;omega) (by omega) (by simp;omega) ?_)
   intro v1 w1 hown2 hgrow hnil1
   have hb':=below_app hb hBw HL.out hgrow
   have HO2:=Lib.hid (own_more (by omega) hown2)
   clear hown2 hgrow hnil1 hown
   go_wp2_with fail
   go_ret
   exact ⟨_,rfl,HA2.out▸HO2.out,hb'⟩
  ·have ha:=HA.out
   rw [bytesL_big h hm,List.append_cons] at ha
   have HA2:=Lib.hid ha
   rw [bytesL_big h hm,List.length_cons] at hlen2
   have hm1:m%128+128<256:=by omega
   have hor:=or128 m
   clear ha HA
   go_wp2_with (at_builtin;refine wpList_append_own _ rfl _ _ 31 rfl B 5 i0 (.int .u8 0) 1 1 Tryz.underlying31 hi hz0 hz1 hz2 rfl (by decide) _ _ _ rfl (hown.alloc _) ⟨wr.heap.size,0,none⟩ 1 1 [.int .u8 ((m%128+128:Nat):Int)] rfl rfl (cell_new1 _ _ _) (int_one _ _) (by unfold maxLen;omega) (by omega) (by simp;omega) ?_)
   intro v1 w1 hown2 hgrow hnil1
   have hb':=below_app hb hBw HL.out hgrow
   have HO2:Hid (OwnB B w1 v1 (acc++[UInt8.ofNat (m%128+128)])):=Lib.hid (own_more hm1 hown2)
   clear hown2 hgrow hnil1 hown hor
   go_wp2_with fail
   go_roundw
   case rel=>exact ⟨_,m / 128,by go_num,by omega,by rw [List.length_append,List.length_singleton];omega,HO2,hb',HA2⟩
   case measure=>simp [intOf];omega
theorem room_any (v:Value) (l:List UInt8) (m:Int) (k:Nat) (w:World) (hm:m=(k:Int)) (hr:BRow w v l) (hlen:l.length+k≤70368744177664) :
  Calls Tryz.prog 143 #[v,.int .i64 m] w (PutLeft w.heap.size l w):=by
 subst hm
 obtain ⟨p,cap,rfl,hlc,hcm⟩:=hr.shape
 unfold maxLen at hcm
 have HR:=Lib.hid hr
 clear hr
 go_enter Tryz.func143,Tryz.ntmps143
 go_wp2_with (at_make;refine wpList_make_bytes rfl _ rfl w.heap.size _ (l.length+k) rfl (by omega) (by omega) (Nat.le_refl _) ?_)
 intro v1 w1 hown hb
 have hsz:=hb.size
 have HO:=Lib.hid hown
 clear hown
 go_wp2_with (at_builtin;refine wpList_append_bytes rfl _ _ rfl w.heap.size _ [] rfl HO.out _ l rfl (HR.out.below hb) (by simp;omega) hsz ?_)
 intro v2 w2 hown2 hb2
 have HO2:=Lib.hid hown2
 clear hown2
 go_wp2_with fail
 go_ret
 exact ⟨_,rfl,HO2.out,hb.trans hb2⟩
end Go.Proofs.YtdfibahafilklaaGreatDoor.VP
