import Derived.Test.YtdijhifdjbnkfaaGreatZD10
import Derived.Test.YtdijhifdjbnkfaaGreatZD11
import Derived.Lib.ItoaNum
import Derived.Test.YtdijhifdjbnkfaaGreatZD3
set_option maxRecDepth 100000
set_option maxHeartbeats 8000000
set_option linter.unusedVariables false
set_option linter.unusedSimpArgs false
namespace Go.Proofs.YtdijhifdjbnkfaaGreat.VP
open Go.RowKit MM VM
theorem ZcV (n:Nat) (h:n<128):Lib.bitLen n≤7:=by
 by_cases h0:n=0
 ·subst h0;decide
 ·have:=Lib.bitLenAux_bounds 64 n (by omega) h0
  have h2:2^(Lib.bitLen n - 1)<2^7:=by
   have:=this.2.1
   unfold Lib.bitLen
   omega
  have:=(Nat.pow_lt_pow_iff_right (a:=2) (by omega)).1 h2
  omega
theorem ZcU (n:Nat) (h0:n≠0) (h:n<18446744073709551616):1≤Lib.bitLen n:=(Lib.bitLenAux_bounds 64 n h h0).1
theorem size_eq (n:Nat):n<18446744073709551616→max 1 ((Lib.bitLen n+6) / 7)=(Zd8 n).length:=by
 refine ZsY (P:=fun n=>n<18446744073709551616→max 1 ((Lib.bitLen n+6) / 7)=(Zd8 n).length) ?_ ?_ n
 ·intro n h hn
  have:=ZcV n h
  rw [Zec h,List.length_singleton]
  omega
 ·intro n h ih hn
  have h1:=Lib.bitLen_shift 7 n (by omega) hn
  have h2:=ZcU (n / 128) (by omega) (by omega)
  have h3:=ih (by omega)
  rw [Zd9 h hn,List.length_cons,← h3,h1,show (2:Nat)^7=128 from rfl]
  omega
theorem Zv5 (n:Nat) (w:World) (hn:n<18446744073709551616):Calls Tryz.prog 195 #[.int .u64 n] w fun e w'=>e=.returned (.int .i64 ((Zd8 n).length:Int))∧w=w':=by
 have hl:=Tryz.bits_Len64 n w (by omega) (by omega)
 rw [Int.toNat_natCast] at hl
 have hs:=size_eq n hn
 have hb:Lib.bitLen n≤70:=by have:=(Zea n).2;omega
 obtain ⟨B,hB⟩:∃ B,Lib.bitLen n=B:=⟨_,rfl⟩
 rw [hB] at hl hb hs
 have HL:=Lib.hid hl
 have HS:=Lib.hid hs
 clear hl hs hB
 go_enter Tryz.func195,Tryz.ntmps195
 go_wp2_with fail
 refine HL.out.mono ?_
 rintro e w' ⟨rfl,rfl⟩
 go_wp2_with fail
 go_ret
 have e:max 1 (((B:Int)+6) / 7)=((max 1 ((B+6) / 7):Nat):Int):=by omega
 rw [← HS.out,← e]
 exact ⟨rfl,rfl⟩
theorem Zr2 (v:Value) (l:List UInt8) (n:Nat) (w:World) (hn:n<18446744073709551616) (hr:BRow w v l) (hlen:l.length≤35184372088832) :
  Calls Tryz.prog 132 #[v,.int .u64 n] w (Zbg w.heap.size (l++Zd8 n) w):=by
 have hbl:=Zea n
 have k1:=fun W=>Zv5 n W hn
 have k2:=fun W (h:BRow W v l)=>Zt4 v l ((Zd8 n).length:Int) _ W rfl h (by omega)
 obtain ⟨L,hL⟩:∃ L,(Zd8 n).length=L:=⟨_,rfl⟩
 simp only [hL] at k1 k2
 have k3:=fun B u W (h:OwnB B W u l) hB=>Zck B u l n W hn h (by omega) hB
 have K1:=Lib.hid k1
 have K2:=Lib.hid k2
 have K3:=Lib.hid k3
 have HR:=Lib.hid hr
 clear k1 k2 k3 hr hL hbl
 go_enter Tryz.func132,Tryz.ntmps132
 go_wp2_with fail
 refine (K1.out _).mono ?_
 rintro e w1 ⟨rfl,rfl⟩
 go_wp2_with fail
 refine (K2.out _ HR.out).mono ?_
 rintro e w1 ⟨v1,rfl,hown1,hb1⟩
 have hsz:=hb1.size
 have HO:=Lib.hid hown1
 clear hown1
 go_wp2_with fail
 refine (K3.out _ _ _ HO.out hsz).mono ?_
 rintro e w2 ⟨v2,rfl,hown2,hb2⟩
 have HO2:=Lib.hid hown2
 clear hown2
 go_wp2_with fail
 go_ret
 exact ⟨_,rfl,HO2.out,hb1.trans hb2⟩
end Go.Proofs.YtdijhifdjbnkfaaGreat.VP
namespace Go.Proofs.YtdijhifdjbnkfaaGreat.FP
open Go.RowKit MM VM CM FM VP CR
theorem Zqk (B:Nat) (w:World):OwnB B w (.slice none 0 0) []:=World.ownsRow_nil _ _ _ _
theorem ZrQ {w:World} {v u:Value} {l m:List UInt8} (h:BRow w v l) (k:BRow w u m):PRow (w.alloc (.cells #[v,u] 23)) (.slice (some ⟨w.heap.size,0,none⟩) 2 2) [l,m] :=
 ZrO [v,u] [l,m] rfl (by unfold maxLen;simp) (fun i hi=>by
  match i,hi with
  | 0,_=>exact ⟨v,rfl,h⟩
  | 1,_=>exact ⟨u,rfl,k⟩)
theorem Zi6 (l m:List UInt8):[l,m].flatten=l++m:=by simp
theorem ZnB (w:World) (s:Nat) (hs:s<4294967296):BRow (w.alloc (.cells #[.int .u8 ((s:Int) / 16777216),.int .u8 ((s:Int) / 65536%256),.int .u8 ((s:Int) / 256%256),.int .u8 ((s:Int)%256)] 5)) (.slice (some ⟨w.heap.size,0,none⟩) 4 4) (sumB s):=by
 have h:=Zqg w (Lib.byteCells (sumB s)) 5 0 (Nat.zero_le _) (by rw [ZdR];unfold maxLen;simp [sumB])
 have e:Lib.byteCells (sumB s)=[.int .u8 ((s:Int) / 16777216),.int .u8 ((s:Int) / 65536%256),.int .u8 ((s:Int) / 256%256),.int .u8 ((s:Int)%256)]:=by
  simp only [Lib.byteCells,sumB,List.map_cons,List.map_nil,UInt8.toNat_ofNat']
  rw [show ((s / 16777216%2^8:Nat):Int)=(s:Int) / 16777216 by omega,show ((s / 65536%2^8:Nat):Int)=(s:Int) / 65536%256 by omega,show ((s / 256%2^8:Nat):Int)=(s:Int) / 256%256 by omega,show ((s%2^8:Nat):Int)=(s:Int)%256 by omega]
 have hb:=BRow.of_own (l:=sumB s) h
 rw [e] at hb
 exact hb
end Go.Proofs.YtdijhifdjbnkfaaGreat.FP
namespace Go.Proofs.YtdijhifdjbnkfaaGreat.FP
open Go.RowKit MM VM CM FM VP CR
theorem Zen {w:World} {b o:Nat} {v:Value} (h:w.cell? ⟨b,o,none⟩=some v):b<w.heap.size:=by
 by_cases hb:b<w.heap.size
 ·exact hb
 ·simp [World.cell?,Array.getElem?_eq_none (Nat.le_of_not_lt hb)] at h
def Zbh (B:Nat) (l:List UInt8) (w:World) (e:Ending) (w':World):Prop:=∃ v',e=.returned (.tuple #[v',.int .i64 0])∧OwnB B w' v' l∧Below B w w'
end Go.Proofs.YtdijhifdjbnkfaaGreat.FP
namespace Go.Proofs.YtdijhifdjbnkfaaGreat.FP
open Go.RowKit MM VM CM FM VP CR
open Go.RowKit MM VM CM FM VP CR
theorem Zfg (v:Value) (l:List UInt8) (w:World) (hr:BRow w v l) (hlen:l.length≤140737488355328):Calls Tryz.prog 106 #[v] w (Zbg w.heap.size l w):=by
 have hr0:Zbm w.heap.size w v (Lib.byteCells l):=hr
 obtain ⟨p,cap,rfl,h1,h2,h3,h⟩:=hr0
 rw [ZdR]
 rw [ZdR] at h1
 cases p with
 | none =>
   have h0:=h3 rfl
   have hl:l=[]:=List.eq_nil_of_length_eq_zero (by omega)
   subst hl
   refine (Tryz.bytes_Clone_nil _ cap w).mono ?_
   rintro e w' ⟨rfl,rfl⟩
   exact ⟨_,rfl,Zqk _ _,Below.refl _ _⟩
 | some a =>
   refine (Tryz.bytes_Clone_at a l.length cap (l.map (fun c=>(c.toNat:Int))) w (by rw [List.length_map]) hlen (fun i hi => ?_)).mono ?_
   ·rcases h with h | ⟨b,off,hp,_,hc⟩
    ·have:=ZdR l;rw [h] at this;simp at this;omega
    ·injection hp with hp
     subst hp
     rw [Zb5,hc i _ (ZdQ l i hi)]
     simp [List.getD,List.getElem?_eq_getElem hi]
   ·rintro e w' ⟨v',rfl,hown,_,hb⟩
    refine ⟨v',rfl,?_,hb⟩
    unfold OwnB
    have e:(l.map (fun c=>(c.toNat:Int))).map (Value.int .u8)=Lib.byteCells l:=by simp [Lib.byteCells]
    rw [e] at hown
    exact hown
theorem Zv6 (n:Int) (w:World) (h0 : -9223372036854775808≤n) (h1:n≤9223372036854775807):Calls Tryz.prog 142 #[.int .i64 n] w fun e w'=>e=.returned (.int .i64 (ZvZ n))∧w=w':=by
 by_cases hn:n<0∨16777216<n
 ·have e:ZvZ n=0:=by unfold ZvZ;rw [if_pos hn]
  rw [e]
  clear e
  by_cases hneg:n<0
  ·have t1:decide (n<0)=true:=by simp [hneg]
   go_enter Tryz.func142,Tryz.ntmps142
   go_wp2_with fail
   go_ret
   exact ⟨rfl,rfl⟩
  ·have t1:decide (n<0)=false:=by simp;omega
   have t2:decide (n>16777216)=true:=by simp;omega
   go_enter Tryz.func142,Tryz.ntmps142
   go_wp2_with fail
   go_ret
   exact ⟨rfl,rfl⟩
 ·obtain ⟨m,rfl⟩:=Int.eq_ofNat_of_zero_le (show 0≤n by omega)
  have hm:m≤16777216:=by omega
  have e:=Zv1 hm
  have k:=fun W=>Zv5 m W (by omega)
  have hb:=Zea m
  generalize (Zd8 m).length=L at *
  have HE:=Lib.hid e
  have HK:=Lib.hid k
  have t1:decide ((m:Int)<0)=false:=by simp
  have t2:decide ((m:Int)>16777216)=false:=by simp;omega
  clear e k hn
  go_enter Tryz.func142,Tryz.ntmps142
  go_wp2_with fail
  refine (HK.out _).mono ?_
  rintro e w1 ⟨rfl,rfl⟩
  go_wp2_with fail
  go_ret
  rw [HE.out]
  exact ⟨by go_num,rfl⟩
theorem Zco (B:Nat) (v u:Value) (l p:List UInt8) (w:World) (hown:OwnB B w v l) (hp:BIn B w u p) (hpl:p.length≤16777216) (hlen:l.length+(ZjB p).length≤70368744177664) (hB:B≤w.heap.size) :
  Calls Tryz.prog 143 #[v,u] w (Zbg B (l++ZjB p) w):=by
 obtain ⟨q,cap,rfl,hc,hm⟩:=hp.shape
 have k1:=fun W=>Zr2 (.slice none 0 0) [] p.length W (by omega) (BRow.nil_ W) (by simp)
 rw [List.nil_append] at k1
 have k2:=fun W v1 (h1:BRow W v1 (Zd8 p.length)) (h2:BRow W (.slice q p.length cap) p)=>ZwO _ _ _ (ZrQ h1 h2)
 simp only [Zi6] at k2
 have hfl:=ZjE p
 have hs:=ZwJ (Zd8 p.length++p)
 have hsl:=ZwG (sumL (Zd8 p.length++p))
 have hfe:l++ZjB p=((l++Zd8 p.length)++sumB (sumL (Zd8 p.length++p)))++p:=by unfold ZjB;simp
 rw [hfe]
 clear hfe
 generalize hS:sumL (Zd8 p.length++p)=S at *
 generalize Zd8 p.length=H at *
 have hl1:l.length+H.length≤140737488355328:=by omega
 have hl2:(l++H).length+(sumB S).length≤140737488355328:=by rw [List.length_append,hsl];omega
 have hl3:(l++H++sumB S).length+p.length≤140737488355328:=by rw [List.length_append,List.length_append,hsl];omega
 have hlit:=fun W=>ZnB W S hs
 generalize sumB S=Z at *
 obtain ⟨X1,hX1⟩:∃ X,l++H=X:=⟨_,rfl⟩
 obtain ⟨X2,hX2⟩:∃ X,X1++Z=X:=⟨_,rfl⟩
 obtain ⟨X3,hX3⟩:∃ X,X2++p=X:=⟨_,rfl⟩
 rw [hX1,hX2] at hl3
 rw [hX1] at hl2
 rw [hX1,hX2,hX3]
 have HX1:=Lib.hid hX1
 have HX2:=Lib.hid hX2
 have HX3:=Lib.hid hX3
 have K1:=Lib.hid k1
 have K2:=Lib.hid k2
 have HP:=Lib.hid hp
 have HO:=Lib.hid hown
 have HL:=Lib.hid hlit
 clear k1 k2 hp hown hlit hfl hsl hlen hS hX1 hX2 hX3
 go_enter Tryz.func143,Tryz.ntmps143
 go_wp2_with fail
 refine (K1.out _).mono ?_
 rintro e w1 ⟨v1,rfl,hown1,hb1⟩
 obtain ⟨q1,cap1,rfl,hc1,hm1⟩:=hown1.brow.shape
 have H1:=Lib.hid hown1.brow
 have HP1:=Lib.hid ((HP.out.below (hb1.mono hB)).row (by have:=hb1.size;omega))
 have hba:Below w1.heap.size w1 (w1.alloc (.cells #[.slice q1 H.length cap1,.slice q p.length cap] 23)):=(Below.refl _ _).alloc (Nat.le_refl _) _
 have hb2:=grow hb1 hba
 clear hown1
 go_wp2_with fail
 refine (K2.out _ _ H1.out HP1.out).mono ?_
 rintro e w2 ⟨rfl,hb3⟩
 have hb4:=grow hb2 hb3
 have H2:=Lib.hid (H1.out.below (grow hba hb3))
 have HO2:=Lib.hid (HO.out.keep hb4)
 have hsz:=hb4.size
 clear hb1 hba hb2 hb3 HO
 go_wp2_with (at_builtin;refine Zzn rfl _ _ rfl B _ l rfl HO2.out _ H rfl H2.out hl1 (by omega) ?_)
 intro v3 w3 hown3 hb5
 have hb6:Below B w w3:=(hb4.mono hB).trans hb5
 have hsz2:=hb6.size
 have hsz2':B≤w3.heap.size:=by omega
 rw [HX1.out] at hown3
 have hlo:=OwnB.keep hown3 ((Below.refl w3.heap.size w3).alloc (Nat.le_refl _) (.cells #[.int .u8 ((S:Int) / 16777216),.int .u8 ((S:Int) / 65536%256),.int .u8 ((S:Int) / 256%256),.int .u8 ((S:Int)%256)] 5))
 have hb7:=hb6.alloc hsz2' (.cells #[.int .u8 ((S:Int) / 16777216),.int .u8 ((S:Int) / 65536%256),.int .u8 ((S:Int) / 256%256),.int .u8 ((S:Int)%256)] 5)
 have hsz3:=hb7.size
 have HO4:=Lib.hid hlo
 clear hown3 hlo
 go_wp2_with (at_builtin;refine Zzn rfl _ _ rfl B _ X1 rfl HO4.out _ Z rfl (HL.out w3) hl2 (by omega) ?_)
 intro v4 w4 hown4 hb8
 have hb9:=hb7.trans hb8
 have hsz4:=hb9.size
 rw [HX2.out] at hown4
 have HO5:=Lib.hid hown4
 have HP4:=Lib.hid ((HP.out.below hb9).row (by omega))
 clear hown4
 go_wp2_with (at_builtin;refine Zzn rfl _ _ rfl B _ X2 rfl HO5.out _ p rfl HP4.out hl3 (by omega) ?_)
 intro v5 w5 hown5 hb10
 rw [HX3.out] at hown5
 have HO6:=Lib.hid hown5
 clear hown5
 go_wp2_with fail
 go_ret
 exact ⟨_,rfl,HO6.out,hb9.trans hb10⟩
end Go.Proofs.YtdijhifdjbnkfaaGreat.FP
namespace Go.Proofs.YtdijhifdjbnkfaaGreat.FP
open Go.RowKit MM VM CM FM VP CR
theorem Zcc (v vs:Value) (l:List UInt8) (ls:List (List UInt8)) (w:World) (hr:BRow w v l) (hs:PRow w vs ls) (hall:∀ p∈ls,p.length≤16777216) (hlen:l.length+(ZjF ls).length≤35184372088832) :
  Calls Tryz.prog 85 #[v,vs] w (Zbh w.heap.size (l++ZjF ls) w):=by
 obtain ⟨p,cap,rfl,hlc,hcm⟩:=hr.shape
 obtain ⟨q,capq,rfl,hqc,hqm⟩:=hs.shape
 unfold maxLen at hcm hqm
 have HR:=Lib.hid hr
 have HS:=Lib.hid hs
 have HA:=Lib.hid hall
 obtain ⟨X,hX⟩:∃ X,l++ZjF ls=X:=⟨_,rfl⟩
 rw [hX]
 have HX:=Lib.hid hX
 clear hr hs hall hX
 go_enter Tryz.func85,Tryz.ntmps85
 go_wp2_with fail
 go_loop [6,16] (fun s i=>∃ k z:Nat,k≤ls.length∧i=.int .i64 k∧s=.int .i64 z∧z=l.length+(ZjF (ls.take k)).length) (fun _ i=>ls.length - (intOf i).toNat)
 case atStart=>exact ⟨0,l.length,by omega,rfl,rfl,by simp [ZjF]⟩
 case round =>
  obtain ⟨k,z,hk,rfl,rfl,hz⟩:=hrel
  have htk:=ZjK ls k
  by_cases hlt:k<ls.length
  ·obtain ⟨b,off,x,rfl,hcell,hx⟩:=HS.out.at_ hlt
   have hpl:=HA.out ls[k] (List.getElem_mem hlt)
   have hsn:=ZjJ ls hlt
   have htk1:=ZjK ls (k+1)
   rw [hsn,List.length_append] at htk1
   have hsz:=Zv0 hpl
   have hK:=fun W=>Zv6 (ls[k].length:Int) W (by omega) (by omega)
   rw [hsz] at hK
   have hzf:z+(ZjB ls[k]).length≤35184372088832:=by omega
   have hz2:z+(ZjB ls[k]).length=l.length+(ZjF (ls.take (k+1))).length:=by rw [hsn,List.length_append];omega
   generalize ls[k]=y at *
   obtain ⟨p2,cap2,rfl,hlc2,hcm2⟩:=hx.shape
   have hf14:=ZjC y
   generalize (ZjB y).length=F at *
   unfold maxLen at hcm2
   have HK:=Lib.hid hK
   have HZ:=Lib.hid hz2
   clear hK hx hsn hz2 hz htk htk1 hsz
   go_wp2_with fail
   refine (HK.out _).mono ?_
   rintro e w1 ⟨rfl,rfl⟩
   go_wp2_with fail
   go_round
   case rel=>exact ⟨k+1,z+F,by omega,by go_num,by go_num,HZ.out⟩
   case measure=>simp [intOf];omega
  ·obtain rfl:k=ls.length:=by omega
   rw [List.take_length] at hz
   clear htk hlt hk
   go_wp2_with (at_make;refine Zzw rfl _ rfl w.heap.size _ z rfl rfl (by omega) (Nat.le_refl _) ?_)
   intro v1 w1 hown1 hb1
   have hsz1:=hb1.size
   have HO1:=Lib.hid hown1
   have HR1:=Lib.hid (HR.out.below hb1)
   have hl0:([]:List UInt8).length+l.length≤140737488355328:=by rw [List.length_nil];omega
   clear hown1
   go_wp2_with (at_builtin;refine Zzn rfl _ _ rfl w.heap.size _ [] rfl HO1.out _ l rfl HR1.out hl0 hsz1 ?_)
   intro v2 w2 hown2 hb2
   have hb3:=hb1.trans hb2
   have HO2:Hid (OwnB w.heap.size w2 v2 (l++ZjF (ls.take 0))):=Lib.hid (by rw [List.take_zero,ZjI,List.append_nil];exact hown2)
   clear hown2 hb1 hb2
   go_wp2_with fail
   go_loopw [9,35] (fun u i wr=>∃ k:Nat,k≤ls.length∧i=.int .i64 k∧Hid (OwnB w.heap.size wr u (l++ZjF (ls.take k)))∧Hid (Below w.heap.size w wr)) (fun _ i _=>ls.length - (intOf i).toNat)
   case atStart=>exact ⟨0,by omega,rfl,HO2,Lib.hid hb3⟩
   case round =>
    obtain ⟨k,hk,rfl,HO,HB⟩:=hrel
    clear HO2 HO1 HR1
    have htk:=ZjK ls k
    by_cases hlt:k<ls.length
    ·obtain ⟨b,off,x,rfl,hcell,hx⟩:=HS.out.at_ hlt
     have hcell2:=(HB.out.cell (p:=⟨b,off+k,none⟩) (Zen hcell)).trans hcell
     have hpl:=HA.out ls[k] (List.getElem_mem hlt)
     have hsn:=ZjJ ls hlt
     have htk1:=ZjK ls (k+1)
     rw [hsn,List.length_append] at htk1
     have hxi:BIn w.heap.size wr x ls[k]:=BIn.below hx HB.out
     have hK:=Zco w.heap.size _ x (l++ZjF (ls.take k)) ls[k] wr HO.out hxi hpl (by rw [List.length_append];omega) HB.out.size
     rw [List.append_assoc,← hsn] at hK
     obtain ⟨p2,cap2,rfl,hlc2,hcm2⟩:=hx.shape
     have HK:=Lib.hid hK
     clear hK hx hsn htk1 htk hxi hcell
     go_wp2_with fail
     refine HK.out.mono ?_
     rintro e w4 ⟨v4,rfl,hown4,hb4⟩
     have HO4:=Lib.hid hown4
     have HB4:=Lib.hid (HB.out.trans hb4)
     clear hown4 hb4
     go_wp2_with fail
     go_roundw
     case rel=>exact ⟨k+1,by omega,by go_num,HO4,HB4⟩
     case measure=>simp [intOf];omega
    ·obtain rfl:k=ls.length:=by omega
     have hown:=HO.out
     rw [List.take_length,HX.out] at hown
     have HF:=Lib.hid hown
     clear hown HO htk
     go_wp2_with fail
     go_ret2
     exact ⟨_,rfl,HF.out,HB.out⟩
theorem ZmQ (v:Value) (ls:List (List UInt8)) (w:World) (hs:PRow w v ls) (hall:∀ p∈ls,p.length≤16777216) (hlen:(ZjF ls).length≤35184372088832) :
  Calls Tryz.prog 40 #[v] w (Zbh w.heap.size (ZjF ls) w):=by
 have h:=Zcc (.slice none 0 0) v [] ls w (BRow.nil_ w) hs hall (by rw [List.length_nil];omega)
 rw [List.nil_append] at h
 generalize ZjF ls=X at *
 have HH:=Lib.hid h
 clear h hs
 go_enter Tryz.func40,Tryz.ntmps40
 go_wp2_with fail
 refine HH.out.mono ?_
 rintro e w1 ⟨v1,rfl,hown,hb⟩
 have HO:=Lib.hid hown
 clear hown
 go_wp2_with fail
 go_ret2
 exact ⟨_,rfl,HO.out,hb⟩
end Go.Proofs.YtdijhifdjbnkfaaGreat.FP
namespace Go.Proofs.YtdijhifdjbnkfaaGreat.VG
open Go.RowKit MM VM
end Go.Proofs.YtdijhifdjbnkfaaGreat.VG
namespace Go.Proofs.YtdijhifdjbnkfaaGreat.FG
open Go.RowKit MM VM CM FM VP CR FP VG
theorem ZiN (x0 x1 x2 x3:Nat) (h0:x0<256) (h1:x1<256) (h2:x2<256) (h3:x3<256) :
  bits .or .u32 (bits .or .u32 (bits .or .u32 ((x0:Int)*16777216) ((x1:Int)*65536)) ((x2:Int)*256)) (x3:Int)=((x0*16777216+x1*65536+x2*256+x3:Nat):Int):=by
 have o:∀ a b i:Nat,b<2^i→2^i*a ||| b=2^i*a+b:=fun a b i hb=>(Nat.two_pow_add_eq_or_of_lt hb a).symm
 rw [show (x0:Int)*16777216=((x0*16777216:Nat):Int) by omega,show (x1:Int)*65536=((x1*65536:Nat):Int) by omega,show (x2:Int)*256=((x2*256:Nat):Int) by omega]
 have e1:=o x0 (x1*65536) 24 (by omega)
 rw [show 2^24*x0=x0*16777216 by omega] at e1
 rw [u32_or_nat _ _ (by omega) (by omega),e1]
 have e2:=o (x0*256+x1) (x2*256) 16 (by omega)
 rw [show 2^16*(x0*256+x1)=x0*16777216+x1*65536 by omega] at e2
 rw [u32_or_nat _ _ (by omega) (by omega),e2]
 have e3:=o (x0*65536+x1*256+x2) x3 8 (by omega)
 rw [show 2^8*(x0*65536+x1*256+x2)=x0*16777216+x1*65536+x2*256 by omega] at e3
 rw [u32_or_nat _ _ (by omega) (by omega),e3]
theorem ZjR:∀ (l:List UInt8) (h:4≤l.length),fsum (l.take 4)=l[0].toNat*16777216+l[1].toNat*65536+l[2].toNat*256+l[3].toNat
 | a::b::c::d::l,_=>rfl
 | [],h=>by simp at h
 | [_],h=>by simp at h
 | [_,_],h=>by simp at h
 | [_,_,_],h=>by simp at h
theorem Zth {k:IntKind} {a b:Int} (h:a=b):Ending.returned (.int k a)=.returned (.int k b):=by rw [h]
theorem ZiL (v:Value) (l:List UInt8) (w:World) (hr:BRow w v l) (hl:4≤l.length) :
  Calls Tryz.prog 154 #[v] w fun e w'=>e=.returned (.int .u32 (fsum (l.take 4)))∧Below w.heap.size w w':=by
 obtain ⟨p,cap,rfl,hlc,hcm⟩:=hr.shape
 obtain ⟨b,off,rfl,hbl,c0⟩:=hr.at_ (k:=0) (by omega)
 obtain ⟨b1,off1,hp1,_,c1⟩:=hr.at_ (k:=1) (by omega)
 obtain ⟨b2,off2,hp2,_,c2⟩:=hr.at_ (k:=2) (by omega)
 obtain ⟨b3,off3,hp3,_,c3⟩:=hr.at_ (k:=3) (by omega)
 simp only [Option.some.injEq,Addr.mk.injEq] at hp1 hp2 hp3
 obtain ⟨rfl,rfl,_⟩:=hp1
 obtain ⟨rfl,rfl,_⟩:=hp2
 obtain ⟨rfl,rfl,_⟩:=hp3
 have h0:=l[0].toNat_lt
 have h1:=l[1].toNat_lt
 have h2:=l[2].toNat_lt
 have h3:=l[3].toNat_lt
 have he:=ZjR l hl
 generalize l[0].toNat=x0 at *
 generalize l[1].toNat=x1 at *
 generalize l[2].toNat=x2 at *
 generalize l[3].toNat=x3 at *
 have hv:=ZiN x0 x1 x2 x3 h0 h1 h2 h3
 rw [← he] at hv
 generalize fsum (l.take 4)=F at *
 have HV:=Lib.hid hv
 clear hr hv he
 rw [Nat.add_zero] at c0
 go_enter Tryz.func154,Tryz.ntmps154
 go_wp2_with fail
 go_quiet (fail)
 go_wp2_with fail
 go_ret
 exact ⟨Zth HV.out,MM.ZcN (Below.refl _ _) nq⟩
def ZaJ (B:Nat) (p:List UInt8) (er:Int) (rest:List UInt8) (w:World) (e:Ending) (w':World):Prop :=
 ∃ vp vr,e=.returned (.tuple #[vp,vr,.int .i64 er])∧OwnB w.heap.size w' vp p∧BIn B w' vr rest∧Below w.heap.size w w'
theorem ZtC {l:List UInt8} {n k:Nat} (h:getL l=(n,k,0)):Zs0 l=l.drop k:=by unfold Zs0;rw [h];rfl
theorem ZtD {l:List UInt8} (h:getL l=(0,0,6)):Zs0 l=[]:=by unfold Zs0;rw [h];rfl
theorem ZtB {l:List UInt8} (h:getL l=(0,0,20)):Zs0 l=[]:=by unfold Zs0;rw [h];rfl
theorem ZkG (B:Nat) (v:Value) (l:List UInt8) (w:World) (hr:BIn B w v l) (hB:B≤w.heap.size) :
  Calls Tryz.prog 100 #[v] w (ZaJ B (getR l).1 (getR l).2.2 (Zs4 l) w):=by
 obtain ⟨p,cap,rfl,hlc,hcm⟩:=hr.shape
 unfold maxLen at hcm
 have k1:=ZkF B _ l w hr hB
 rcases FM.Zki l with ⟨n,k,hg,hb,hk1,hk2⟩ | hg | hg
 ·rw [hg,ZtC hg] at k1
  by_cases hn:n≤16777216
  ·have hR:=Zkq hg hn
   have hrl:(l.drop k).length=l.length - k:=List.length_drop
   obtain ⟨Y,hY⟩:∃ Y,l.drop k=Y:=⟨_,rfl⟩
   rw [hY] at k1 hR hrl
   have K1:=Lib.hid k1
   have t1:decide ((n:Int)>16777216)=false:=by simp;omega
   by_cases hs:Y.length<4+n
   ·rw [if_pos hs] at hR
    rw [hR,Zs5 hR (by omega)]
    clear hR k1 hr hg hY
    go_enter Tryz.func100,Tryz.ntmps100
    go_wp2_with fail
    refine K1.out.mono ?_
    rintro e w1 ⟨v1,rfl,hrow,hb1⟩
    obtain ⟨p2,cap2,rfl,hlc2,hcm2⟩:=hrow.shape
    unfold maxLen at hcm2
    clear hrow
    go_wp2_with fail
    go_ret3
    exact ⟨_,_,rfl,Zqk w.heap.size _,BIn.nil_ _ _,hb1⟩
   ·rw [if_neg hs] at hR
    have HR:=Lib.hid hR
    have HL:=Lib.hid hr
    have hsub:(l.length:Int) - (Y.length:Int)=(k:Int):=by omega
    have HYY:=Lib.hid hY
    clear hR k1 hr hg hY
    go_enter Tryz.func100,Tryz.ntmps100
    go_wp2_with fail
    refine K1.out.mono ?_
    rintro e w1 ⟨v1,rfl,hrow,hb1⟩
    obtain ⟨p2,cap2,rfl,hlc2,hcm2⟩:=hrow.shape
    unfold maxLen at hcm2
    have HY:=Lib.hid hrow
    obtain ⟨b,off,rfl,hbl,hc0⟩:=hrow.at_ (k:=0) (by omega)
    clear hc0
    have i1:(k:Int)≤(cap:Int):=by omega
    have i2:(4:Int)+n≤(Y.length:Int):=by omega
    have i3:(Y.length:Int)≤(cap2:Int):=by omega
    have HRL:=Lib.hid hrl
    have hP:BIn B w1 (.slice (if cap2=4 then some ⟨b,off,none⟩ else some ⟨b,off+4,none⟩) n (cap2 - 4)) ((Y.drop 4).take n):=by
     have h:=(hrow.drop 4 (by omega)).take n (by omega)
     rw [Option.map_some,Zb5] at h
     exact h
    have hQ:BIn B w1 (.slice (if cap2=4+n then some ⟨b,off,none⟩ else some ⟨b,off+(4+n),none⟩) (Y.length - (4+n)) (cap2 - (4+n))) (Y.drop (4+n)):=by
     have h:=hrow.drop (4+n) (by omega)
     rw [Option.map_some,Zb5] at h
     exact h
    have hH:BIn B w (.slice p k cap) (l.take k):=HL.out.take k hk2
    have HP:=Lib.hid hP
    have HQ:=Lib.hid hQ
    have HH:=Lib.hid (hH.below (hb1.mono hB))
    have hfst:=fun W (h:BRow W (.slice (some ⟨b,off,none⟩) Y.length cap2) Y)=>ZiL _ _ W h (by omega)
    have hpl:((Y.drop 4).take n).length=n:=by rw [List.length_take,List.length_drop];omega
    have hdd:l.drop (k+(4+n))=Y.drop (4+n):=by rw [← HYY.out,List.drop_drop]
    generalize fsum (Y.take 4)=F1 at *
    generalize Y.drop (4+n)=YR at *
    generalize (Y.drop 4).take n=YP at *
    generalize l.take k=LH at *
    have HF:=Lib.hid hfst
    have HDD:=Lib.hid hdd
    have hn2:n≤16777216:=hn
    clear hrow hrl hP hQ hH hfst hdd
    go_wp2_with fail
    go_quiet (fail)
    generalize (if cap2=4 then some (⟨b,off,none⟩:Addr) else some ⟨b,off+4,none⟩)=q1 at *
    generalize (if cap2=4+n then some (⟨b,off,none⟩:Addr) else some ⟨b,off+(4+n),none⟩)=q2 at *
    obtain ⟨W,hW⟩:∃ W,w1.drewN nq=W:=⟨_,rfl⟩
    have hbW:Below w1.heap.size w1 W:=by rw [← hW];exact MM.ZcN (Below.refl _ _) nq
    rw [hW]
    have HYW:=Lib.hid ((HY.out.below (hbW.mono (by have:=hb1.size;omega))).row (by have:=hb1.size;have:=hbW.size;omega))
    go_wp2_with fail
    refine (HF.out W HYW.out).mono ?_
    rintro e w2 ⟨rfl,hb2⟩
    have hc:=grow hb1 (grow hbW hb2)
    have hcB:Below B w1 w2:=(grow hbW hb2).mono (by have:=hb1.size;omega)
    have hszB:B≤w2.heap.size:=by have:=hc.size;omega
    have HH2:=Lib.hid ((HH.out.below hcB).row hszB)
    have HP2:=Lib.hid ((HP.out.below hcB).row hszB)
    rw [← hpl] at HP2
    have hK:=Lib.hid (Zi6 LH YP▸ZwO _ _ _ (ZrQ HH2.out HP2.out))
    rw [hpl] at hK HP2
    have hba:Below w2.heap.size w2 (w2.alloc (.cells #[.slice p k cap,.slice q1 n (cap2 - 4)] 23)):=(Below.refl _ _).alloc (Nat.le_refl _) _
    have HQ2:=Lib.hid (HQ.out.below hcB)
    by_cases heq:F1=sumL (LH++YP)
    ·have hR:=HR.out
     rw [if_neg (by simp [heq])] at hR
     have HRs:=Lib.hid (Zs6 hR)
     generalize sumL (LH++YP)=F2 at *
     subst heq
     have tne:((F1:Int) != (F1:Int))=false:=by simp
     have HR2:=Lib.hid hR
     clear hR HR
     go_wp2_with fail
     refine hK.out.mono ?_
     rintro e w3 ⟨rfl,hb3⟩
     have hb4:=grow hba hb3
     have HP3:=Lib.hid (Zfg _ YP w3 (HP2.out.below hb4) (by omega))
     have HQ3:=Lib.hid (HQ2.out.below (hb4.mono hszB))
     go_wp2_with fail
     refine HP3.out.mono ?_
     rintro e w4 ⟨v4,rfl,hown4,hb5⟩
     have HO4:=Lib.hid (hown4.weaken (B':=w.heap.size) (Nat.le_trans hc.size hb4.size))
     have HQ4:=Lib.hid (HQ3.out.below (hb5.mono (by have:=hb4.size;omega)))
     have hend:=grow (grow hc hb4) hb5
     clear hown4
     go_wp2_with fail
     go_ret3
     rw [HRs.out,HR2.out,HDD.out]
     exact ⟨_,_,rfl,HO4.out,HQ4.out,hend⟩
    ·have hR:=HR.out
     rw [if_pos heq] at hR
     have HRs:=Lib.hid (Zs5 hR (by omega))
     generalize sumL (LH++YP)=F2 at *
     have tne:((F1:Int) != (F2:Int))=true:=by rw [bne_iff_ne];omega
     have HR2:=Lib.hid hR
     clear hR HR
     go_wp2_with fail
     refine hK.out.mono ?_
     rintro e w3 ⟨rfl,hb3⟩
     have hend:=grow hc (grow hba hb3)
     go_wp2_with fail
     go_ret3
     rw [HRs.out,HR2.out]
     exact ⟨_,_,rfl,Zqk w.heap.size _,BIn.nil_ _ _,hend⟩
  ·have hR:=Zko hg (by omega)
   rw [hR,Zs5 hR (by omega)]
   have K1:=Lib.hid k1
   have t1:decide ((n:Int)>16777216)=true:=by simp;omega
   clear k1 hR hr hg
   go_enter Tryz.func100,Tryz.ntmps100
   go_wp2_with fail
   refine K1.out.mono ?_
   rintro e w1 ⟨v1,rfl,hrow,hb1⟩
   clear hrow
   go_wp2_with fail
   go_ret3
   exact ⟨_,_,rfl,Zqk w.heap.size _,BIn.nil_ _ _,hb1⟩
 ·have hR:=Zks hg
  rw [hg,ZtD hg] at k1
  rw [hR,Zs5 hR (by omega)]
  have K1:=Lib.hid k1
  clear k1 hR hr hg
  go_enter Tryz.func100,Tryz.ntmps100
  go_wp2_with fail
  refine K1.out.mono ?_
  rintro e w1 ⟨v1,rfl,hrow,hb1⟩
  clear hrow
  go_wp2_with fail
  go_ret3
  exact ⟨_,_,rfl,Zqk w.heap.size _,BIn.nil_ _ _,hb1⟩
 ·have hR:=Zkm hg
  rw [hg,ZtB hg] at k1
  rw [hR,Zs5 hR (by omega)]
  have K1:=Lib.hid k1
  clear k1 hR hr hg
  go_enter Tryz.func100,Tryz.ntmps100
  go_wp2_with fail
  refine K1.out.mono ?_
  rintro e w1 ⟨v1,rfl,hrow,hb1⟩
  clear hrow
  go_wp2_with fail
  go_ret3
  exact ⟨_,_,rfl,Zqk w.heap.size _,BIn.nil_ _ _,hb1⟩
end Go.Proofs.YtdijhifdjbnkfaaGreat.FG
namespace Go.Proofs.YtdijhifdjbnkfaaGreat.MM
open Go Go.RowKit
theorem Ztc {P:Program} {fn:Func} {t:TypeId} {ty:TypeDesc} {p:Tmp} (h:fn.results=#[.cell p t]) (hu:P.underlying t=some ty) (hd:(match ty with | .struct _ | .array _ _=>true | _=>false)=true) (cs:Array Value) (hi:(P.info? t).map (·.size)=some cs.size) (tmps:Array Value) (w:World) (g:Nat)
  (hp:tmps.getD p undef=.pointer (some ⟨g,0,none⟩)) (hg:w.heap[g]? = some (.cells cs t (0,0))):(results fn tmps).run P w=.ok (.agg cs) w:=by
 have hp':tmps[p]?.getD undef=.pointer (some ⟨g,0,none⟩):=by simpa using hp
 have hl:=run_loadVar_row (P:=P) w g t t cs (0,0) ty hg hu hd hi
 simp [results,h,hp',asAddr,hl]
theorem Zud {w:World} {g:Nat} {cs:Array Value} {t:TypeId} {fr:Nat×Nat} (h:w.heap[g]? = some (.cells cs t fr)) (i:Nat):w.cell? ⟨g,i,none⟩=cs[i]? := cell_of_row w g i _ _ _ h
end Go.Proofs.YtdijhifdjbnkfaaGreat.MM
namespace Go.Proofs.YtdijhifdjbnkfaaGreat.VP
open Go.RowKit MM VM
theorem Zsb (v:Value) (l:List UInt8) (s:ByteArray) (w:World) (hr:BRow w v l) (hlen:l.length+s.size≤17592186044416) :
  Calls Tryz.prog 199 #[v,.string s] w (Zbg w.heap.size (l++Zxu s.data.toList) w):=by
 have hz:s.data.toList.length=s.size:=(Lib.size_eq s).symm
 have hbl:=Zea s.size
 have k1:=fun W=>Zv5 s.size W (by omega)
 have k2:=fun W (h:BRow W v l)=>Zt4 v l ((Zd8 s.size).length+s.size:Int) ((Zd8 s.size).length+s.size) W (by omega) h (by omega)
 have k3:=fun B u W (h:OwnB B W u l) hB=>Zck B u l s.size W (by omega) h (by omega) hB
 have hm:s.size≤9223372036854775807:=by omega
 have hlz:(l++Zd8 s.size).length+s.size≤140737488355328:=by rw [List.length_append];omega
 unfold Zxu
 rw [hz,← List.append_assoc]
 obtain ⟨L,hL⟩:∃ L,(Zd8 s.size).length=L:=⟨_,rfl⟩
 simp only [hL] at k1 k2
 have hL10:L≤10:=by omega
 obtain ⟨T,hT⟩:∃ T,l++Zd8 s.size=T:=⟨_,rfl⟩
 simp only [hT] at k3 hlz
 rw [hT]
 have K1:=Lib.hid k1
 have K2:=Lib.hid k2
 have K3:=Lib.hid k3
 have HR:=Lib.hid hr
 clear k1 k2 k3 hr hL hbl hz hT
 go_enter Tryz.func199,Tryz.ntmps199
 go_wp2_with fail
 refine (K1.out _).mono ?_
 rintro e w1 ⟨rfl,rfl⟩
 go_wp2_with fail
 refine (K2.out _ HR.out).mono ?_
 rintro e w1 ⟨v1,rfl,hown1,hb1⟩
 have hsz:=hb1.size
 have HO:=Lib.hid hown1
 clear hown1
 go_wp2_with fail
 refine (K3.out _ _ _ HO.out hsz).mono ?_
 rintro e w2 ⟨v2,rfl,hown2,hb2⟩
 have hb:=hb1.trans hb2
 have hsz2:=hb.size
 have HO2:=Lib.hid hown2
 clear hown2
 go_wp2_with (at_builtin;refine Zzt rfl _ _ rfl w.heap.size _ _ rfl HO2.out _ rfl hlz hsz2 ?_)
 intro v3 w3 hown3 hb3
 have HO3:=Lib.hid hown3
 clear hown3
 go_wp2_with fail
 go_ret
 exact ⟨_,rfl,HO3.out,hb.trans hb3⟩
end Go.Proofs.YtdijhifdjbnkfaaGreat.VP
namespace Go.Proofs.YtdijhifdjbnkfaaGreat.VP
open Go.RowKit MM VM
end Go.Proofs.YtdijhifdjbnkfaaGreat.VP
namespace Go.Proofs.YtdijhifdjbnkfaaGreat.VG
open Go.RowKit MM VM VP
theorem Zki (l:List UInt8):(∃ n k,getL l=(n,k,0)∧n<18446744073709551616∧1≤k∧k≤l.length)∨getL l=(0,0,6)∨getL l=(0,0,20):=by
 have h:=Zkh l
 rcases h.2.2.1 with h0 | h0
 ·exact .inl ⟨(getL l).1,(getL l).2.1,by rw [← h0],h.1,h.2.2.2 h0,h.2.1⟩
 ·exact .inr h0
theorem Zs2 {l:List UInt8} {n k:Nat} (h:getL l=(n,k,0)):Zs0 l=l.drop k:=by unfold Zs0;rw [h];rfl
theorem Zs3 {l:List UInt8} (h:getL l=(0,0,6)):Zs0 l=[]:=by unfold Zs0;rw [h];rfl
theorem Zs1 {l:List UInt8} (h:getL l=(0,0,20)):Zs0 l=[]:=by unfold Zs0;rw [h];rfl
def Zs7 (l:List UInt8) (most:Int):List UInt8:=if (getT l most).2.2=0 then l.drop (getT l most).2.1 else []
theorem ZkA {l:List UInt8} {n k:Nat} (h:getL l=(n,k,0)) (most:Int) :
  (max 0 most<(n:Int)→(getT l most).1=[]∧(getT l most).2.2=2∧Zs7 l most=[]) ∧
  (¬ max 0 most<(n:Int)→(l.drop k).length<n→(getT l most).1=[]∧(getT l most).2.2=6∧Zs7 l most=[]) ∧
  (¬ max 0 most<(n:Int)→¬ (l.drop k).length<n→(getT l most).1=(l.drop k).take n∧(getT l most).2.2=0∧Zs7 l most=(l.drop k).drop n):=by
 rw [List.length_drop]
 refine ⟨fun h1 => ?_,fun h1 h2 => ?_,fun h1 h2 => ?_⟩
 ·have e:getT l most=([],0,2):=by unfold getT;rw [h];simp [h1]
  unfold Zs7
  rw [e]
  exact ⟨rfl,rfl,rfl⟩
 ·have e:getT l most=([],0,6):=by
   unfold getT
   rw [h]
   show (if (0:Int)≠0 then _ else if max 0 most<(n:Int) then _ else if l.length - k<n then _ else _)=_
   rw [if_neg (by simp),if_neg h1,if_pos h2]
  unfold Zs7
  rw [e]
  exact ⟨rfl,rfl,rfl⟩
 ·have e:getT l most=((l.drop k).take n,k+n,0):=by
   unfold getT
   rw [h]
   show (if (0:Int)≠0 then _ else if max 0 most<(n:Int) then _ else if l.length - k<n then _ else _)=_
   rw [if_neg (by simp),if_neg h1,if_neg h2]
  unfold Zs7
  rw [e,List.drop_drop]
  exact ⟨rfl,rfl,rfl⟩
theorem Zkz {l:List UInt8} {er:Int} (h:getL l=(0,0,er)) (h0:er≠0) (most:Int):(getT l most).1=[]∧(getT l most).2.2=er∧Zs7 l most=[]:=by
 have e:getT l most=([],0,er):=by
  unfold getT
  rw [h]
  show (if er≠0 then _ else _)=_
  rw [if_pos h0]
 unfold Zs7
 rw [e]
 exact ⟨rfl,rfl,if_neg h0⟩
end Go.Proofs.YtdijhifdjbnkfaaGreat.VG
namespace Go.Proofs.YtdijhifdjbnkfaaGreat.VP
open Go.RowKit MM VM
theorem ZzK (x:BitVec 64):(x ^^^ BitVec.allOnes 64).toNat=18446744073709551615 - x.toNat:=by
 rw [BitVec.xor_allOnes,BitVec.toNat_not]
theorem Zpo (x:Nat) (h:x<18446744073709551616):(BitVec.ofInt 64 (x:Int)).toNat=x:=by
 rw [BitVec.ofInt_natCast,BitVec.toNat_ofNat];exact Nat.mod_eq_of_lt (by omega)
theorem Zpq:BitVec.ofInt 64 18446744073709551615=BitVec.allOnes 64:=by decide
theorem Zpp:BitVec.ofInt 64 (-1)=BitVec.allOnes 64:=by decide
theorem ZzU (n:Int) (h0 : -9223372036854775808≤n) (h1:n≤9223372036854775807) :
  bits .xor .u64 (IntKind.u64.wrap (IntKind.u64.wrap n*2)) (IntKind.u64.wrap (n / 9223372036854775808))=(zig n:Int):=by
 unfold zig
 by_cases h:0≤n
 ·obtain ⟨m,rfl⟩:=Int.eq_ofNat_of_zero_le h
  have e1:IntKind.u64.wrap ((m:Int) / 9223372036854775808)=((0:Nat):Int):=by rw [IntKind.wrap_u64];omega
  have e2:IntKind.u64.wrap (IntKind.u64.wrap (m:Int)*2)=((2*m:Nat):Int):=by rw [IntKind.wrap_u64,IntKind.wrap_u64];omega
  rw [e1,e2,u64_xor_nat _ _ (by omega) (by omega),Nat.xor_zero,if_pos h]
  omega
 ·have e1:IntKind.u64.wrap (n / 9223372036854775808)=18446744073709551615:=by rw [IntKind.wrap_u64];omega
  obtain ⟨x,hx,hxl⟩:∃ x:Nat,IntKind.u64.wrap (IntKind.u64.wrap n*2)=(x:Int)∧(x:Int)=2*n+18446744073709551616:=⟨(2*n+18446744073709551616).toNat,by rw [IntKind.wrap_u64,IntKind.wrap_u64];omega,by omega⟩
  rw [e1,hx,if_neg h]
  show IntKind.u64.wrap ((BitVec.ofInt 64 (x:Int) ^^^ BitVec.ofInt 64 18446744073709551615).toNat:Int)=_
  rw [Zpq,ZzK,Zpo x (by omega),IntKind.wrap_u64]
  omega
theorem Zys (n:Nat) (h1:n<18446744073709551616):bits .xor .i64 ((n:Int) / 2) (wrap64 (-wrap64 (bits .and .u64 (n:Int) 1)))=zag n:=by
 have e0:bits .and .u64 (n:Int) 1=((n%2:Nat):Int):=by
  have:=u64_and_nat n 1 h1 (by omega)
  rw [Nat.and_one_is_mod] at this
  exact this
 have e1:(n:Int) / 2=((n / 2:Nat):Int):=by omega
 rw [e0,e1]
 unfold zag
 by_cases h:n%2=0
 ·rw [if_pos h,h]
  have e2:wrap64 (-wrap64 ((0:Nat):Int))=0:=by unfold wrap64;omega
  rw [e2]
  show IntKind.i64.wrap ((BitVec.ofInt 64 ((n / 2:Nat):Int) ^^^ BitVec.ofInt 64 0).toNat:Int)=_
  rw [show BitVec.ofInt 64 0=0#64 from by decide,BitVec.xor_zero,Zpo _ (by omega),IntKind.wrap_i64]
  omega
 ·have h2:n%2=1:=by omega
  rw [if_neg h,h2]
  have e2:wrap64 (-wrap64 ((1:Nat):Int)) = -1:=by unfold wrap64;omega
  rw [e2]
  show IntKind.i64.wrap ((BitVec.ofInt 64 ((n / 2:Nat):Int) ^^^ BitVec.ofInt 64 (-1)).toNat:Int)=_
  rw [Zpp,ZzK,Zpo _ (by omega),IntKind.wrap_i64]
  omega
theorem Zte {k:IntKind} {a b:Int} (h:a=b):Ending.returned (.int k a)=.returned (.int k b):=by rw [h]
theorem ZzS (n:Int) (w:World) (h0 : -9223372036854775808≤n) (h1:n≤9223372036854775807):Calls Tryz.prog 202 #[.int .i64 n] w fun e w'=>e=.returned (.int .u64 (zig n))∧w=w':=by
 have HV:=Lib.hid (ZzU n h0 h1)
 go_enter Tryz.func202,Tryz.ntmps202
 go_wp2_with fail
 go_ret
 exact ⟨Zte HV.out,rfl⟩
theorem Zyr (n:Nat) (w:World) (h1:n<18446744073709551616):Calls Tryz.prog 286 #[.int .u64 n] w fun e w'=>e=.returned (.int .i64 (zag n))∧w=w':=by
 have HV:=Lib.hid (Zys n h1)
 go_enter Tryz.func286,Tryz.ntmps286
 go_wp2_with fail
 go_ret
 exact ⟨Zte HV.out,rfl⟩
theorem Zsa (v:Value) (l:List UInt8) (n:Int) (w:World) (h0 : -9223372036854775808≤n) (h1:n≤9223372036854775807) (hr:BRow w v l) (hlen:l.length≤35184372088832) :
  Calls Tryz.prog 265 #[v,.int .i64 n] w (Zbg w.heap.size (l++intL n) w):=by
 have k1:=fun W=>ZzS n W h0 h1
 have k2:=fun W (h:BRow W v l)=>Zr2 v l (zig n) W (ZzT h0 h1) h hlen
 unfold intL
 generalize zig n=z at *
 have K1:=Lib.hid k1
 have K2:=Lib.hid k2
 have HR:=Lib.hid hr
 clear k1 k2 hr
 go_enter Tryz.func265,Tryz.ntmps265
 go_wp2_with fail
 refine (K1.out _).mono ?_
 rintro e w1 ⟨rfl,rfl⟩
 go_wp2_with fail
 refine (K2.out _ HR.out).mono ?_
 rintro e w1 ⟨v1,rfl,hown1,hb1⟩
 have HO:=Lib.hid hown1
 clear hown1
 go_wp2_with fail
 go_ret
 exact ⟨_,rfl,HO.out,hb1⟩
end Go.Proofs.YtdijhifdjbnkfaaGreat.VP
namespace Go.Proofs.YtdijhifdjbnkfaaGreat.VG
open Go.RowKit MM VM VP
theorem ZkL (B:Nat) (v:Value) (l:List UInt8) (most:Int) (w:World) (h0 : -9223372036854775808≤most) (h1:most≤9223372036854775807) (hr:BIn B w v l) (hB:B≤w.heap.size) :
  Calls Tryz.prog 160 #[v,.int .i64 most] w (ZaI B (.string ⟨(getT l most).1.toArray⟩) (getT l most).2.2 (Zs7 l most) w):=by
 have k1:=ZkF B v l w hr hB
 rcases Zki l with ⟨n,k,hg,hb,hk1,hk2⟩ | hg | hg
 ·rw [hg,Zs2 hg] at k1
  have hcase:=ZkA hg most
  obtain ⟨R,hR⟩:∃ R,l.drop k=R:=⟨_,rfl⟩
  rw [hR] at k1 hcase
  have K1:=Lib.hid k1
  obtain ⟨M,hM⟩:∃ M,max most 0=M:=⟨_,rfl⟩
  have hM2:max 0 most=M:=by omega
  have hmx:0≤M∧M≤9223372036854775807:=by omega
  rw [hM2] at hcase
  clear k1 hr hg hR hM2 h0 h1
  by_cases hm:M<(n:Int)
  ·obtain ⟨e1,e2,e3⟩:=hcase.1 hm
   rw [e1,e2,e3]
   clear hcase e1 e2 e3
   go_enter Tryz.func160,Tryz.ntmps160
   go_wp2_with fail
   refine K1.out.mono ?_
   rintro e w1 ⟨v1,rfl,hrow,hb1⟩
   clear hrow
   go_wp2_with fail
   go_ret3
   exact ⟨_,rfl,BIn.nil_ _ w1,hb1⟩
  ·by_cases hs:R.length<n
   ·obtain ⟨e1,e2,e3⟩:=hcase.2.1 hm hs
    rw [e1,e2,e3]
    clear hcase e1 e2 e3
    go_enter Tryz.func160,Tryz.ntmps160
    go_wp2_with fail
    refine K1.out.mono ?_
    rintro e w1 ⟨v1,rfl,hrow,hb1⟩
    obtain ⟨p,cap,rfl,hlc,hcm⟩:=hrow.shape
    unfold maxLen at hcm
    clear hrow
    go_wp2_with fail
    go_ret3
    exact ⟨_,rfl,BIn.nil_ _ w1,hb1⟩
   ·obtain ⟨e1,e2,e3⟩:=hcase.2.2 hm hs
    rw [e1,e2,e3]
    obtain ⟨T,hT⟩:∃ T:ByteArray,(⟨(R.take n).toArray⟩:ByteArray)=T:=⟨_,rfl⟩
    rw [hT]
    have HT:=Lib.hid hT
    clear hcase e1 e2 e3 hT
    go_enter Tryz.func160,Tryz.ntmps160
    go_wp2_with fail
    refine K1.out.mono ?_
    rintro e w1 ⟨v1,rfl,hrow,hb1⟩
    obtain ⟨p,cap,rfl,hlc,hcm⟩:=hrow.shape
    unfold maxLen at hcm
    have hconv:=fun nq=>((hrow.take n (by omega)).drewN nq).conv
    simp only [HT.out] at hconv
    have HR:=Lib.hid (hrow.drop3 n (by omega))
    have hi1:(n:Int)≤(R.length:Int):=by omega
    have hi2:(R.length:Int)≤(cap:Int):=by omega
    clear hrow
    go_wp2_with fail
    go_quiet (fail)
    clear hconv
    go_wp2_with fail
    ·go_ret3
     exact ⟨_,rfl,(HR.out.1 (by assumption)).drewN nq,MM.ZcN hb1 nq⟩
    ·go_ret3
     exact ⟨_,rfl,(HR.out.2 (by assumption)).drewN nq,MM.ZcN hb1 nq⟩
 ·rw [hg,Zs3 hg] at k1
  obtain ⟨e1,e2,e3⟩:=Zkz hg (by decide) most
  rw [e1,e2,e3]
  have K1:=Lib.hid k1
  clear k1 hr hg e1 e2 e3
  go_enter Tryz.func160,Tryz.ntmps160
  go_wp2_with fail
  refine K1.out.mono ?_
  rintro e w1 ⟨v1,rfl,hrow,hb1⟩
  clear hrow
  go_wp2_with fail
  go_ret3
  exact ⟨_,rfl,BIn.nil_ _ w1,hb1⟩
 ·rw [hg,Zs1 hg] at k1
  obtain ⟨e1,e2,e3⟩:=Zkz hg (by decide) most
  rw [e1,e2,e3]
  have K1:=Lib.hid k1
  clear k1 hr hg e1 e2 e3
  go_enter Tryz.func160,Tryz.ntmps160
  go_wp2_with fail
  refine K1.out.mono ?_
  rintro e w1 ⟨v1,rfl,hrow,hb1⟩
  clear hrow
  go_wp2_with fail
  go_ret3
  exact ⟨_,rfl,BIn.nil_ _ w1,hb1⟩
end Go.Proofs.YtdijhifdjbnkfaaGreat.VG
namespace Go.Proofs.YtdijhifdjbnkfaaGreat.VG
open Go.RowKit MM VM VP
theorem ZkK (B:Nat) (v:Value) (l:List UInt8) (w:World) (hr:BIn B w v l) (hB:B≤w.heap.size) :
  Calls Tryz.prog 282 #[v] w (ZaI B (.int .i64 (getI l).1) (getI l).2.2 (Zs0 l) w):=by
 have hb:=(Zkh l).1
 have k1:=ZkF B v l w hr hB
 have k2:=fun W=>Zyr (getL l).1 W hb
 unfold getI
 generalize (getL l).1=n at *
 generalize (getL l).2.1=k at *
 generalize (getL l).2.2=e0 at *
 generalize Zs0 l=R at *
 have K1:=Lib.hid k1
 have K2:=Lib.hid k2
 clear k1 k2 hr hb
 go_enter Tryz.func282,Tryz.ntmps282
 go_wp2_with fail
 refine K1.out.mono ?_
 rintro e w1 ⟨v1,rfl,hrow,hb1⟩
 have HR:=Lib.hid hrow
 clear hrow
 go_wp2_with fail
 refine (K2.out _).mono ?_
 rintro e w2 ⟨rfl,rfl⟩
 go_wp2_with fail
 go_ret3
 exact ⟨_,rfl,HR.out,hb1⟩
end Go.Proofs.YtdijhifdjbnkfaaGreat.VG
namespace Go.Proofs.YtdijhifdjbnkfaaGreat.VG
open Go.RowKit MM VM VP
def Fits (zs:List Int):Prop:=∀ k,k<zs.length → -9223372036854775808≤zs.getD k 0∧zs.getD k 0≤9223372036854775807
theorem Zcd (zs:List Int) (k:Nat) (hn:zs.length≤1000000):(allL (zs.take k)).length≤10000000:=by
 have:=Zb9 (zs.take k)
 have h2:(zs.take k).length≤zs.length:=List.length_take_le' _ _
 omega
theorem Zr9 (v u:Value) (l:List UInt8) (zs:List Int) (w:World) (hr:BRow w v l) (hu:IRow w u zs) (hz:Fits zs) (hlen:l.length≤1099511627776) (hn:zs.length≤1000000) :
  Calls Tryz.prog 138 #[v,u] w (Zbg w.heap.size (l++allL zs) w):=by
 obtain ⟨p,cap,rfl,hlc,hcm⟩:=hu.shape
 unfold maxLen at hcm
 have HR:=Lib.hid hr
 have HU:=Lib.hid hu
 have HZ:=Lib.hid hz
 clear hr hu hz
 go_enter Tryz.func138,Tryz.ntmps138
 go_wp2_with fail
 go_loop [5,12] (fun sz i=>∃ k:Nat,k≤zs.length∧i=.int .i64 k∧sz=.int .i64 ((allL (zs.take k)).length:Int)) (fun _ i=>zs.length - (intOf i).toNat)
 case atStart=>exact ⟨0,Nat.zero_le _,rfl,rfl⟩
 case round =>
  obtain ⟨k,hk,rfl,rfl⟩:=hrel
  have hroom:=Zcd zs k hn
  by_cases hlt:k<zs.length
  ·obtain ⟨b,off,rfl,hbl,hcell⟩:=HU.out.at_ hlt
   have hf:=HZ.out k hlt
   have hsn:=congrArg List.length (Zca zs k hlt)
   rw [List.length_append] at hsn
   obtain ⟨z,hzz⟩:∃ z,zs.getD k 0=z:=⟨_,rfl⟩
   rw [hzz] at hcell hf hsn
   have k1:=fun W=>ZzS z W hf.1 hf.2
   have k2:=fun W=>Zv5 (zig z) W (ZzT hf.1 hf.2)
   unfold intL at hsn
   have hbl2:=(Zea (zig z)).2
   obtain ⟨q,hq⟩:∃ q,zig z=q:=⟨_,rfl⟩
   simp only [hq] at k1 k2 hsn hbl2
   obtain ⟨L,hL⟩:∃ L,(allL (zs.take k)).length=L:=⟨_,rfl⟩
   obtain ⟨M,hM⟩:∃ M,(Zd8 q).length=M:=⟨_,rfl⟩
   simp only [hM] at k2 hbl2
   rw [hL,hM] at hsn
   rw [hL] at hroom ⊢
   have K1:=Lib.hid k1
   have K2:=Lib.hid k2
   have HS:=Lib.hid hsn
   clear k1 k2 hsn hzz hf hq hL hM
   go_wp2_with fail
   refine (K1.out _).mono ?_
   rintro e w1 ⟨rfl,rfl⟩
   go_wp2_with fail
   refine (K2.out _).mono ?_
   rintro e w1 ⟨rfl,rfl⟩
   go_wp2_with fail
   go_round
   case rel=>exact ⟨k+1,by omega,by go_num,by rw [HS.out];go_num⟩
   case measure=>simp [intOf];omega
  ·obtain rfl:k=zs.length:=by omega
   rw [List.take_length] at hroom ⊢
   have k1:=fun W (h:BRow W v l)=>Zt4 v l ((allL zs).length:Int) _ W rfl h (by omega)
   obtain ⟨L,hL⟩:∃ L,(allL zs).length=L:=⟨_,rfl⟩
   simp only [hL] at k1
   rw [hL]
   have K1:=Lib.hid k1
   clear k1 hL
   go_wp2_with fail
   refine (K1.out _ HR.out).mono ?_
   rintro e w1 ⟨v1,rfl,hown1,hb1⟩
   have HO0:Hid (OwnB w.heap.size w1 v1 (l++allL (zs.take 0))):=by
    have e:l++allL (zs.take 0)=l:=by simp [allL]
    rw [e]
    exact Lib.hid hown1
   clear hown1
   go_wp2_with fail
   go_loopw [0,27] (fun bv i wr=>∃ k:Nat,k≤zs.length∧i=.int .i64 k∧Hid (OwnB w.heap.size wr bv (l++allL (zs.take k)))∧Below w.heap.size w wr) (fun _ i _=>zs.length - (intOf i).toNat)
   case atStart=>exact ⟨0,Nat.zero_le _,rfl,HO0,hb1⟩
   case round =>
    obtain ⟨k,hk,rfl,HO,hb⟩:=hrel
    clear HO0
    have hsz:=hb.size
    by_cases hlt:k<zs.length
    ·obtain ⟨b,off,rfl,hbl,hcell⟩:=(HU.out.below hb).at_ hlt
     have hf:=HZ.out k hlt
     have hroom:=Zcd zs k hn
     have hsn:=Zca zs k hlt
     obtain ⟨z,hzz⟩:∃ z,zs.getD k 0=z:=⟨_,rfl⟩
     rw [hzz] at hcell hf hsn
     have k1:=fun W=>ZzS z W hf.1 hf.2
     have k2:=fun W x (h:OwnB w.heap.size W x (l++allL (zs.take k))) hB=>Zck w.heap.size x _ (zig z) W (ZzT hf.1 hf.2) h (by rw [List.length_append];omega) hB
     unfold intL at hsn
     obtain ⟨q,hq⟩:∃ q,zig z=q:=⟨_,rfl⟩
     simp only [hq] at k1 k2 hsn
     have hl2:l++allL (zs.take k)++Zd8 q=l++allL (zs.take (k+1)):=by rw [hsn,List.append_assoc]
     rw [hl2] at k2
     have K1:=Lib.hid k1
     have K2:=Lib.hid k2
     clear k1 k2 hsn hzz hf hq hl2 hroom
     go_wp2_with fail
     refine (K1.out _).mono ?_
     rintro e w2 ⟨rfl,rfl⟩
     go_wp2_with fail
     refine (K2.out _ _ HO.out hsz).mono ?_
     rintro e w2 ⟨v2,rfl,hown2,hb2⟩
     have HO2:=Lib.hid hown2
     clear hown2
     go_wp2_with fail
     go_roundw
     case rel=>exact ⟨k+1,by omega,by go_num,HO2,hb.trans hb2⟩
     case measure=>simp [intOf];omega
    ·obtain rfl:k=zs.length:=by omega
     rw [List.take_length] at HO
     go_wp2_with fail
     go_ret
     exact ⟨_,rfl,HO.out,hb⟩
end Go.Proofs.YtdijhifdjbnkfaaGreat.VG
namespace Go.Proofs.YtdijhifdjbnkfaaGreat.DT
open Go Go.RowKit MM VM
def Zo4 (m:Nat) (l:List UInt8) (o:Bool):Nat×List UInt8×Bool:=if (getL l).2.2=0∧(getL l).1≤m then ((getL l).1,VG.Zs0 l,o) else (0,[],true)
def Zyg (m:Int) (l:List UInt8) (o:Bool):List UInt8×List UInt8×Bool:=((getT l m).1,VG.Zs7 l m,o||(getT l m).2.2 != 0)
def Rd (B:Nat) (w:World) (g:Nat) (l:List UInt8) (o:Bool):Prop:=∃ v,w.heap[g]? = some (.cells #[v,.bool o] 166 (0,0))∧BIn B w v l
theorem Rd.lt {B:Nat} {w:World} {g:Nat} {l:List UInt8} {o:Bool} (h:Rd B w g l o):g<w.heap.size:=by obtain ⟨v,h,_⟩:=h;exact (Array.getElem?_eq_some_iff.1 h).1
theorem Rd.keep {S:Nat→Prop} {B:Nat} {w w':World} {g:Nat} {l:List UInt8} {o:Bool} (h:Rd B w g l o) (hk:Kep S w w') (hg:S g) (hB:∀ k,k<B→S k) (hBs:B≤w.heap.size):Rd B w' g l o:=by
 have hl:=h.lt
 obtain ⟨v,h,hv⟩:=h
 exact ⟨v,(hk.block g hl hg).trans h,hv.below (hk.below hBs hB)⟩
theorem ZsL {B:Nat} {w w1:World} {g:Nat} {l m:List UInt8} {o:Bool} {v:Value} (h:Rd B w g l o) (hb:Below w.heap.size w w1) (hB:B≤g) (hv:BIn B w1 v m):Rd B (w1.setCell ⟨g,0,none⟩ v) g m o:=by
 obtain ⟨v0,h,_⟩:=h
 have hlt:=(Array.getElem?_eq_some_iff.1 h).1
 have h1:=heap_setCell_same w1 g 0 _ _ v ((hb.block g hlt).trans h)
 exact ⟨v,h1,hv.below ((Below.refl B w1).setCell (p:=⟨g,0,none⟩) hB v)⟩
theorem ZsN {B:Nat} {w w1:World} {g:Nat} {l m:List UInt8} {o:Bool} {v:Value} (h:Rd B w g l o) (hb:Below w.heap.size w w1) (hB:B≤g) (hv:BIn B w1 v m):Rd B ((w1.setCell ⟨g,0,none⟩ v).setCell ⟨g,1,none⟩ (.bool true)) g m true:=by
 obtain ⟨v0,h,_⟩:=h
 have hlt:=(Array.getElem?_eq_some_iff.1 h).1
 have h1:=heap_setCell_same w1 g 0 _ _ v ((hb.block g hlt).trans h)
 have h2:=heap_setCell_same _ g 1 _ _ (.bool true) h1
 exact ⟨v,h2,(hv.below ((Below.refl B w1).setCell (p:=⟨g,0,none⟩) hB v)).below ((Below.refl B _).setCell (p:=⟨g,1,none⟩) hB (.bool true))⟩
def Took (B g:Nat) (x:Value) (l:List UInt8) (o:Bool) (w:World) (e:Ending) (w':World):Prop:=e=.returned x∧Rd B w' g l o∧Kep (fun b=>b≠g) w w'
theorem ZkQ (B g:Nat) (l m:List UInt8) (o:Bool) (v:Value) (er:Int) (w:World) (h:Rd B w g l o) (hB:B≤g) (hv:BIn B w v m) :
  Calls Tryz.prog 159 #[.pointer (some ⟨g,0,none⟩),v,.int .i64 er] w (Took B g (.tuple #[]) m (o||er != 0) w):=by
 have HR:=Lib.hid h
 have hlt:=h.lt
 obtain ⟨v0,hc,_⟩:=h
 have HV:=Lib.hid hv
 have f0:=cell_of_row w g 0 _ _ _ hc
 have f1:=cell_of_row w g 1 _ _ _ hc
 have f2:=frozen_of_row w g 0 _ _ hc
 have f3:=frozen_of_row w g 1 _ _ hc
 obtain ⟨p1,c1,rfl,_⟩:=hv.shape
 by_cases h0:er=0
 ·subst h0
  have t1:(o||((0:Int) != 0))=o:=by simp
  rw [t1]
  have HQ:=Lib.hid (show Took B g (.tuple #[]) m o w (.returned (.tuple #[])) (w.setCell ⟨g,0,none⟩ (.slice p1 m.length c1)) from ⟨rfl,ZsL HR.out (Below.refl _ _) hB HV.out,ZmZ (by simp) _⟩)
  clear hv HV HR hc
  go_enter Tryz.func159,Tryz.ntmps159
  go_wp2_with fail
  refine bodyPost_end (results_none rfl _ _ _) rfl ?_
  exact HQ.out
 ·have t0:(er != 0)=true:=by rw [bne_iff_ne];exact h0
  have t1:(o||(er != 0))=true:=by rw [t0];simp
  rw [t1]
  have HQ:=Lib.hid (show Took B g (.tuple #[]) m true w (.returned (.tuple #[])) ((w.setCell ⟨g,0,none⟩ (.slice p1 m.length c1)).setCell ⟨g,1,none⟩ (.bool true)) from ⟨rfl,ZsN HR.out (Below.refl _ _) hB HV.out,(ZmZ (by simp) _).trans (ZmZ (by simp) _)⟩)
  clear hv HV HR hc
  go_enter Tryz.func159,Tryz.ntmps159
  go_wp2_with fail
  refine bodyPost_end (results_none rfl _ _ _) rfl ?_
  exact HQ.out
theorem Zxx (B g:Nat) (most:Int) (l:List UInt8) (o:Bool) (w:World) (h0:0≤most) (h1:most≤9223372036854775807) (h:Rd B w g l o) (hB:B≤g) :
  Calls Tryz.prog 103 #[.pointer (some ⟨g,0,none⟩),.int .i64 most] w (Took B g (.string ⟨(Zyg most l o).1.toArray⟩) (Zyg most l o).2.1 (Zyg most l o).2.2 w):=by
 have HR:=Lib.hid h
 have hlt:=h.lt
 obtain ⟨v,hc,hv⟩:=h
 have f0:w.cell? ⟨g,0,none⟩=some v:=by rw [cell_of_row w g 0 _ _ _ hc];rfl
 have HG:=Lib.hid (VG.ZkL B v l most w (by omega) h1 hv (Nat.le_of_lt (Nat.lt_of_le_of_lt hB hlt)))
 have HGO:=Lib.hid (fun m v er w1 (h1:Rd B w1 g l o) (h2:BIn B w1 v m)=>ZkQ B g l m o v er w1 h1 hB h2)
 unfold Zyg
 dsimp only
 generalize (getT l most).1=n at *
 generalize (getT l most).2.2=er at *
 generalize VG.Zs7 l most=R at *
 have HBS:=Lib.hid (show B≤w.heap.size by omega)
 clear hv hc hlt
 go_enter Tryz.func103,Tryz.ntmps103
 go_wp2_with fail
 refine HG.out.mono ?_
 rintro e w1 ⟨v1,rfl,hv1,hb1⟩
 have hr1:=HR.out.keep (S:=fun _=>True) (ZmT _ hb1) trivial (fun _ _=>trivial) HBS.out
 have HQ:=Lib.hid (HGO.out R v1 er w1 hr1 hv1)
 have HB1:=Lib.hid hb1
 clear hv1 hb1 hr1 HG HGO
 go_wp2_with fail
 refine HQ.out.mono ?_
 rintro e w2 ⟨rfl,h2,k2⟩
 have H2:=Lib.hid h2
 have K2:=Lib.hid k2
 clear h2 k2 HQ
 go_wp2_with fail
 go_ret
 exact ⟨rfl,H2.out,(ZmT _ HB1.out).trans K2.out⟩
theorem Zpj (B g:Nat) (m:Nat) (l:List UInt8) (o:Bool) (w:World) (hm:m≤1099511627776) (h:Rd B w g l o) (hB:B≤g) :
  Calls Tryz.prog 102 #[.pointer (some ⟨g,0,none⟩),.int .i64 m] w (Took B g (.int .i64 (Zo4 m l o).1) (Zo4 m l o).2.1 (Zo4 m l o).2.2 w):=by
 have HR:=Lib.hid h
 have hlt:=h.lt
 obtain ⟨v,hc,hv⟩:=h
 have f0:w.cell? ⟨g,0,none⟩=some v:=by rw [cell_of_row w g 0 _ _ _ hc];rfl
 have HG:=Lib.hid (VG.ZkF B v l w hv (Nat.le_of_lt (Nat.lt_of_le_of_lt hB hlt)))
 have HGO:=Lib.hid (fun m v er w1 (h1:Rd B w1 g l o) (h2:BIn B w1 v m)=>ZkQ B g l m o v er w1 h1 hB h2)
 have hb:=Zkh l
 have herr:(getL l).2.2≠0→(getL l).1=0∧VG.Zs0 l=[]:=fun he=>by
  refine ⟨?_,by unfold VG.Zs0;rw [if_neg he]⟩
  rcases hb.2.2.1 with e | e | e
  ·exact absurd e he
  ·rw [e]
  ·rw [e]
 have hn:=hb.1
 unfold Zo4
 generalize (getL l).1=n at *
 generalize (getL l).2.2=er at *
 generalize VG.Zs0 l=R at *
 have HBS:=Lib.hid (show B≤w.heap.size by omega)
 clear hv hc hlt hb
 by_cases hmn:n≤m
 ·have hst:(if er=0∧n≤m then (n,R,o) else (0,[],true))=(n,R,o||er != 0):=by
   by_cases h0:er=0
   ·subst h0
    rw [if_pos ⟨rfl,hmn⟩];simp
   ·rw [if_neg (fun h=>h0 h.1),(herr h0).1,(herr h0).2]
    have:(er != 0)=true:=by rw [bne_iff_ne];exact h0
    rw [this];simp
  rw [hst]
  have t1:decide ((n:Int)>(m:Int))=false:=decide_eq_false (by omega)
  have t2:IntKind.u64.wrap (m:Int)=(m:Int):=by rw [IntKind.wrap_u64];omega
  have t3:IntKind.i64.wrap (n:Int)=(n:Int):=by rw [IntKind.wrap_i64];omega
  dsimp only
  clear hst herr
  go_enter Tryz.func102,Tryz.ntmps102
  go_wp2_with fail
  refine HG.out.mono ?_
  rintro e w1 ⟨v1,rfl,hv1,hb1⟩
  have hr1:=HR.out.keep (S:=fun _=>True) (ZmT _ hb1) trivial (fun _ _=>trivial) HBS.out
  have HQ:=Lib.hid (HGO.out R v1 er w1 hr1 hv1)
  have HB1:=Lib.hid hb1
  clear hv1 hb1 hr1 HG HGO
  go_wp2_with fail
  refine HQ.out.mono ?_
  rintro e w2 ⟨rfl,h2,k2⟩
  have H2:=Lib.hid h2
  have K2:=Lib.hid k2
  clear h2 k2 HQ
  go_wp2_with fail
  go_ret
  exact ⟨rfl,H2.out,(ZmT _ HB1.out).trans K2.out⟩
 ·have hst:(if er=0∧n≤m then (n,R,o) else (0,[],true))=(0,[],true):=by rw [if_neg (fun h=>hmn h.2)]
  rw [hst]
  have t1:decide ((n:Int)>(m:Int))=true:=decide_eq_true (by omega)
  have t2:IntKind.u64.wrap (m:Int)=(m:Int):=by rw [IntKind.wrap_u64];omega
  dsimp only
  clear hst herr
  go_enter Tryz.func102,Tryz.ntmps102
  go_wp2_with fail
  refine HG.out.mono ?_
  rintro e w1 ⟨v1,rfl,hv1,hb1⟩
  have hr1:=HR.out.keep (S:=fun _=>True) (ZmT _ hb1) trivial (fun _ _=>trivial) HBS.out
  have HQ:=Lib.hid (HGO.out [] (.slice none 0 0) 110 w1 hr1 (BIn.nil_ _ _))
  have HB1:=Lib.hid hb1
  clear hv1 hb1 hr1 HG HGO
  go_wp2_with fail
  refine HQ.out.mono ?_
  rintro e w2 ⟨rfl,h2,k2⟩
  have h2':Rd B w2 g [] true:=by have:=h2;simpa using this
  have H2:=Lib.hid h2'
  have K2:=Lib.hid k2
  clear h2 h2' k2 HQ
  go_wp2_with fail
  go_ret
  exact ⟨rfl,H2.out,(ZmT _ HB1.out).trans K2.out⟩
end Go.Proofs.YtdijhifdjbnkfaaGreat.DT
