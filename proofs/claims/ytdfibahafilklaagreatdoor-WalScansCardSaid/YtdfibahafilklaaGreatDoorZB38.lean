import Derived.Test.YtdfibahafilklaaGreatDoorZB31
set_option maxRecDepth 100000
set_option maxHeartbeats 8000000
set_option linter.unusedVariables false
set_option linter.unusedSimpArgs false
namespace Go.Proofs.YtdfibahafilklaaGreatDoor.VG
open Go.RowKit MM VM VP
theorem gettext_in (B:Nat) (v:Value) (l:List UInt8) (most:Int) (w:World) (h0 : -9223372036854775808≤most) (h1:most≤9223372036854775807) (hr:BIn B w v l) (hB:B≤w.heap.size) :
  Calls Tryz.prog 189 #[v,.int .i64 most] w (GotIn B (.string ⟨(getT l most).1.toArray⟩) (getT l most).2.2 (restT l most) w):=by
 have k1:=get_in B v l w hr hB
 rcases getL_cases l with ⟨n,k,hg,hb,hk1,hk2⟩ | hg | hg
 ·rw [hg,restL_ok hg] at k1
  have hcase:=getT_ok hg most
  obtain ⟨R,hR⟩:∃ R,l.drop k=R:=⟨_,rfl⟩
  rw [hR] at k1 hcase
  have K1:=Lib.hid k1
  obtain ⟨M,hM⟩:∃ M,max most 0=M:=⟨_,rfl⟩
  have hM2:max 0 most=M:=by omega
  have hmx:0≤M∧M≤9223372036854775807:=by omega
  rw [hM2] at hcase
  clear k1 hr hg hR hM2 h0 h1
  by_cases hm:M<(n:Int)
  ·obtain ⟨e1,e2,e3⟩:=hcase.1 hm
   rw [e1,e2,e3]
   clear hcase e1 e2 e3
   go_enter Tryz.func189,Tryz.ntmps189
   go_wp2_with fail
   refine K1.out.mono ?_
   rintro e w1 ⟨v1,rfl,hrow,hb1⟩
   clear hrow
   go_wp2_with fail
   go_ret3
   exact ⟨_,rfl,BIn.nil_ _ w1,hb1⟩
  ·by_cases hs:R.length<n
   ·obtain ⟨e1,e2,e3⟩:=hcase.2.1 hm hs
    rw [e1,e2,e3]
    clear hcase e1 e2 e3
    go_enter Tryz.func189,Tryz.ntmps189
    go_wp2_with fail
    refine K1.out.mono ?_
    rintro e w1 ⟨v1,rfl,hrow,hb1⟩
    obtain ⟨p,cap,rfl,hlc,hcm⟩:=hrow.shape
    unfold maxLen at hcm
    clear hrow
    go_wp2_with fail
    go_ret3
    exact ⟨_,rfl,BIn.nil_ _ w1,hb1⟩
   ·obtain ⟨e1,e2,e3⟩:=hcase.2.2 hm hs
    rw [e1,e2,e3]
    obtain ⟨T,hT⟩:∃ T:ByteArray,(⟨(R.take n).toArray⟩:ByteArray)=T:=⟨_,rfl⟩
    rw [hT]
    have HT:=Lib.hid hT
    clear hcase e1 e2 e3 hT
    go_enter Tryz.func189,Tryz.ntmps189
    go_wp2_with fail
    refine K1.out.mono ?_
    rintro e w1 ⟨v1,rfl,hrow,hb1⟩
    obtain ⟨p,cap,rfl,hlc,hcm⟩:=hrow.shape
    unfold maxLen at hcm
    have hconv:=fun nq=>((hrow.take n (by omega)).drewN nq).conv
    simp only [HT.out] at hconv
    have HR:=Lib.hid (hrow.drop3 n (by omega))
    have hi1:(n:Int)≤(R.length:Int):=by omega
    have hi2:(R.length:Int)≤(cap:Int):=by omega
    clear hrow
    go_wp2_with fail
    go_quiet (fail)
    clear hconv
    go_wp2_with fail
    ·go_ret3
     exact ⟨_,rfl,(HR.out.1 (by assumption)).drewN nq,MM.below_drewN hb1 nq⟩
    ·go_ret3
     exact ⟨_,rfl,(HR.out.2 (by assumption)).drewN nq,MM.below_drewN hb1 nq⟩
 ·rw [hg,restL_short hg] at k1
  obtain ⟨e1,e2,e3⟩:=getT_err hg (by decide) most
  rw [e1,e2,e3]
  have K1:=Lib.hid k1
  clear k1 hr hg e1 e2 e3
  go_enter Tryz.func189,Tryz.ntmps189
  go_wp2_with fail
  refine K1.out.mono ?_
  rintro e w1 ⟨v1,rfl,hrow,hb1⟩
  clear hrow
  go_wp2_with fail
  go_ret3
  exact ⟨_,rfl,BIn.nil_ _ w1,hb1⟩
 ·rw [hg,restL_bad hg] at k1
  obtain ⟨e1,e2,e3⟩:=getT_err hg (by decide) most
  rw [e1,e2,e3]
  have K1:=Lib.hid k1
  clear k1 hr hg e1 e2 e3
  go_enter Tryz.func189,Tryz.ntmps189
  go_wp2_with fail
  refine K1.out.mono ?_
  rintro e w1 ⟨v1,rfl,hrow,hb1⟩
  clear hrow
  go_wp2_with fail
  go_ret3
  exact ⟨_,rfl,BIn.nil_ _ w1,hb1⟩
end Go.Proofs.YtdfibahafilklaaGreatDoor.VG
namespace Go.Proofs.YtdfibahafilklaaGreatDoor.VG
open Go.RowKit MM VM VP
theorem getint_in (B:Nat) (v:Value) (l:List UInt8) (w:World) (hr:BIn B w v l) (hB:B≤w.heap.size) :
  Calls Tryz.prog 188 #[v] w (GotIn B (.int .i64 (getI l).1) (getI l).2.2 (restL l) w):=by
 have hb:=(getL_bounds l).1
 have k1:=get_in B v l w hr hB
 have k2:=fun W=>unzig_any (getL l).1 W hb
 unfold getI
 generalize (getL l).1=n at *
 generalize (getL l).2.1=k at *
 generalize (getL l).2.2=e0 at *
 generalize restL l=R at *
 have K1:=Lib.hid k1
 have K2:=Lib.hid k2
 clear k1 k2 hr hb
 go_enter Tryz.func188,Tryz.ntmps188
 go_wp2_with fail
 refine K1.out.mono ?_
 rintro e w1 ⟨v1,rfl,hrow,hb1⟩
 have HR:=Lib.hid hrow
 clear hrow
 go_wp2_with fail
 refine (K2.out _).mono ?_
 rintro e w2 ⟨rfl,rfl⟩
 go_wp2_with fail
 go_ret3
 exact ⟨_,rfl,HR.out,hb1⟩
theorem rgetint_in (B:Nat) (v:Value) (l:List UInt8) (w:World) (hr:BIn B w v l) (hB:B≤w.heap.size) :
  Calls Tryz.prog 136 #[v] w (GotIn B (.int .i64 (getI l).1) (getI l).2.2 (restL l) w):=by
 have k1:=rget_in B v l w hr hB
 unfold getI
 rcases getL_cases l with ⟨n,k,hg,hb,hk1,hk2⟩ | hg | hg
 ·rw [hg] at k1 ⊢
  rw [restL_ok hg] at k1 ⊢
  have k2:=fun W=>rback_any n W hb
  have K1:=Lib.hid k1
  have K2:=Lib.hid k2
  clear k1 k2 hr hg
  go_enter Tryz.func136,Tryz.ntmps136
  go_wp2_with fail
  refine K1.out.mono ?_
  rintro e w1 ⟨v1,rfl,hrow,hb1⟩
  have HR:=Lib.hid hrow
  clear hrow
  go_wp2_with fail
  refine (K2.out _).mono ?_
  rintro e w2 ⟨rfl,rfl⟩
  go_wp2_with fail
  go_ret3
  exact ⟨_,rfl,HR.out,hb1⟩
 ·rw [hg] at k1 ⊢
  rw [restL_short hg] at k1 ⊢
  have K1:=Lib.hid k1
  clear k1 hr hg
  go_enter Tryz.func136,Tryz.ntmps136
  go_wp2_with fail
  refine K1.out.mono ?_
  rintro e w1 ⟨v1,rfl,hrow,hb1⟩
  clear hrow
  go_wp2_with fail
  go_ret3
  exact ⟨_,rfl,BIn.nil_ _ w1,hb1⟩
 ·rw [hg] at k1 ⊢
  rw [restL_bad hg] at k1 ⊢
  have K1:=Lib.hid k1
  clear k1 hr hg
  go_enter Tryz.func136,Tryz.ntmps136
  go_wp2_with fail
  refine K1.out.mono ?_
  rintro e w1 ⟨v1,rfl,hrow,hb1⟩
  clear hrow
  go_wp2_with fail
  go_ret3
  exact ⟨_,rfl,BIn.nil_ _ w1,hb1⟩
end Go.Proofs.YtdfibahafilklaaGreatDoor.VG
namespace Go.Proofs.YtdfibahafilklaaGreatDoor.FP
open Go.RowKit MM VM CM FM VP CR
open Go.RowKit MM VM CM FM VP CR
theorem clone_any (v:Value) (l:List UInt8) (w:World) (hr:BRow w v l) (hlen:l.length≤140737488355328):Calls Tryz.prog 132 #[v] w (PutLeft w.heap.size l w):=by
 have hr0:RowIn w.heap.size w v (Lib.byteCells l):=hr
 obtain ⟨p,cap,rfl,h1,h2,h3,h⟩:=hr0
 rw [byteCells_len]
 rw [byteCells_len] at h1
 cases p with
 | none =>
   have h0:=h3 rfl
   have hl:l=[]:=List.eq_nil_of_length_eq_zero (by omega)
   subst hl
   refine (Tryz.bytes_Clone_nil _ cap w).mono ?_
   rintro e w' ⟨rfl,rfl⟩
   exact ⟨_,rfl,own_nil _ _,Below.refl _ _⟩
 | some a =>
   refine (Tryz.bytes_Clone_at a l.length cap (l.map (fun c=>(c.toNat:Int))) w (by rw [List.length_map]) hlen (fun i hi => ?_)).mono ?_
   ·rcases h with h | ⟨b,off,hp,_,hc⟩
    ·have:=byteCells_len l;rw [h] at this;simp at this;omega
    ·injection hp with hp
     subst hp
     rw [add_at,hc i _ (byteCells_get l i hi)]
     simp [List.getD,List.getElem?_eq_getElem hi]
   ·rintro e w' ⟨v',rfl,hown,_,hb⟩
    refine ⟨v',rfl,?_,hb⟩
    unfold OwnB
    have e:(l.map (fun c=>(c.toNat:Int))).map (Value.int .u8)=Lib.byteCells l:=by simp [Lib.byteCells]
    rw [e] at hown
    exact hown
theorem size_fr (n:Int) (w:World) (h0 : -9223372036854775808≤n) (h1:n≤9223372036854775807):Calls Tryz.prog 147 #[.int .i64 n] w fun e w'=>e=.returned (.int .i64 (sizeL n))∧w=w':=by
 by_cases hn:n<0∨16777216<n
 ·have e:sizeL n=0:=by unfold sizeL;rw [if_pos hn]
  rw [e]
  clear e
  by_cases hneg:n<0
  ·have t1:decide (n<0)=true:=by simp [hneg]
   go_enter Tryz.func147,Tryz.ntmps147
   go_wp2_with fail
   go_ret
   exact ⟨rfl,rfl⟩
  ·have t1:decide (n<0)=false:=by simp;omega
   have t2:decide (n>16777216)=true:=by simp;omega
   go_enter Tryz.func147,Tryz.ntmps147
   go_wp2_with fail
   go_ret
   exact ⟨rfl,rfl⟩
 ·obtain ⟨m,rfl⟩:=Int.eq_ofNat_of_zero_le (show 0≤n by omega)
  have hm:m≤16777216:=by omega
  have e:=sizeL_nat hm
  have k:=fun W=>size_any m W (by omega)
  have hb:=bytesL_length m
  generalize (bytesL m).length=L at *
  have HE:=Lib.hid e
  have HK:=Lib.hid k
  have t1:decide ((m:Int)<0)=false:=by simp
  have t2:decide ((m:Int)>16777216)=false:=by simp;omega
  clear e k hn
  go_enter Tryz.func147,Tryz.ntmps147
  go_wp2_with fail
  refine (HK.out _).mono ?_
  rintro e w1 ⟨rfl,rfl⟩
  go_wp2_with fail
  go_ret
  rw [HE.out]
  exact ⟨by go_num,rfl⟩
theorem appf_any (B:Nat) (v u:Value) (l p:List UInt8) (w:World) (hown:OwnB B w v l) (hp:BIn B w u p) (hpl:p.length≤16777216) (hlen:l.length+(frameL p).length≤70368744177664) (hB:B≤w.heap.size) :
  Calls Tryz.prog 148 #[v,u] w (PutLeft B (l++frameL p) w):=by
 obtain ⟨q,cap,rfl,hc,hm⟩:=hp.shape
 have k1:=fun W=>put_any (.slice none 0 0) [] p.length W (by omega) (BRow.nil_ W) (by simp)
 rw [List.nil_append] at k1
 have k2:=fun W v1 (h1:BRow W v1 (bytesL p.length)) (h2:BRow W (.slice q p.length cap) p)=>sum_any _ _ _ (prow_two h1 h2)
 simp only [flat_two] at k2
 have hfl:=frameL_length p
 have hs:=sumL_lt (bytesL p.length++p)
 have hsl:=sumB_length (sumL (bytesL p.length++p))
 have hfe:l++frameL p=((l++bytesL p.length)++sumB (sumL (bytesL p.length++p)))++p:=by unfold frameL;simp
 rw [hfe]
 clear hfe
 generalize hS:sumL (bytesL p.length++p)=S at *
 generalize bytesL p.length=H at *
 have hl1:l.length+H.length≤140737488355328:=by omega
 have hl2:(l++H).length+(sumB S).length≤140737488355328:=by rw [List.length_append,hsl];omega
 have hl3:(l++H++sumB S).length+p.length≤140737488355328:=by rw [List.length_append,List.length_append,hsl];omega
 have hlit:=fun W=>lit_sum W S hs
 generalize sumB S=Z at *
 obtain ⟨X1,hX1⟩:∃ X,l++H=X:=⟨_,rfl⟩
 obtain ⟨X2,hX2⟩:∃ X,X1++Z=X:=⟨_,rfl⟩
 obtain ⟨X3,hX3⟩:∃ X,X2++p=X:=⟨_,rfl⟩
 rw [hX1,hX2] at hl3
 rw [hX1] at hl2
 rw [hX1,hX2,hX3]
 have HX1:=Lib.hid hX1
 have HX2:=Lib.hid hX2
 have HX3:=Lib.hid hX3
 have K1:=Lib.hid k1
 have K2:=Lib.hid k2
 have HP:=Lib.hid hp
 have HO:=Lib.hid hown
 have HL:=Lib.hid hlit
 clear k1 k2 hp hown hlit hfl hsl hlen hS hX1 hX2 hX3
 go_enter Tryz.func148,Tryz.ntmps148
 go_wp2_with fail
 refine (K1.out _).mono ?_
 rintro e w1 ⟨v1,rfl,hown1,hb1⟩
 obtain ⟨q1,cap1,rfl,hc1,hm1⟩:=hown1.brow.shape
 have H1:=Lib.hid hown1.brow
 have HP1:=Lib.hid ((HP.out.below (hb1.mono hB)).row (by have:=hb1.size;omega))
 have hba:Below w1.heap.size w1 (w1.alloc (.cells #[.slice q1 H.length cap1,.slice q p.length cap] 31)):=(Below.refl _ _).alloc (Nat.le_refl _) _
 have hb2:=grow hb1 hba
 clear hown1
 go_wp2_with fail
 refine (K2.out _ _ H1.out HP1.out).mono ?_
 rintro e w2 ⟨rfl,hb3⟩
 have hb4:=grow hb2 hb3
 have H2:=Lib.hid (H1.out.below (grow hba hb3))
 have HO2:=Lib.hid (HO.out.keep hb4)
 have hsz:=hb4.size
 clear hb1 hba hb2 hb3 HO
 go_wp2_with (at_builtin;refine wpList_append_bytes rfl _ _ rfl B _ l rfl HO2.out _ H rfl H2.out hl1 (by omega) ?_)
 intro v3 w3 hown3 hb5
 have hb6:Below B w w3:=(hb4.mono hB).trans hb5
 have hsz2:=hb6.size
 have hsz2':B≤w3.heap.size:=by omega
 rw [HX1.out] at hown3
 have hlo:=OwnB.keep hown3 ((Below.refl w3.heap.size w3).alloc (Nat.le_refl _) (.cells #[.int .u8 ((S:Int) / 16777216),.int .u8 ((S:Int) / 65536%256),.int .u8 ((S:Int) / 256%256),.int .u8 ((S:Int)%256)] 5))
 have hb7:=hb6.alloc hsz2' (.cells #[.int .u8 ((S:Int) / 16777216),.int .u8 ((S:Int) / 65536%256),.int .u8 ((S:Int) / 256%256),.int .u8 ((S:Int)%256)] 5)
 have hsz3:=hb7.size
 have HO4:=Lib.hid hlo
 clear hown3 hlo
 go_wp2_with (at_builtin;refine wpList_append_bytes rfl _ _ rfl B _ X1 rfl HO4.out _ Z rfl (HL.out w3) hl2 (by omega) ?_)
 intro v4 w4 hown4 hb8
 have hb9:=hb7.trans hb8
 have hsz4:=hb9.size
 rw [HX2.out] at hown4
 have HO5:=Lib.hid hown4
 have HP4:=Lib.hid ((HP.out.below hb9).row (by omega))
 clear hown4
 go_wp2_with (at_builtin;refine wpList_append_bytes rfl _ _ rfl B _ X2 rfl HO5.out _ p rfl HP4.out hl3 (by omega) ?_)
 intro v5 w5 hown5 hb10
 rw [HX3.out] at hown5
 have HO6:=Lib.hid hown5
 clear hown5
 go_wp2_with fail
 go_ret
 exact ⟨_,rfl,HO6.out,hb9.trans hb10⟩
end Go.Proofs.YtdfibahafilklaaGreatDoor.FP
namespace Go.Proofs.YtdfibahafilklaaGreatDoor.FP
open Go.RowKit MM VM CM FM VP CR
theorem all_any (v vs:Value) (l:List UInt8) (ls:List (List UInt8)) (w:World) (hr:BRow w v l) (hs:PRow w vs ls) (hall:∀ p∈ls,p.length≤16777216) (hlen:l.length+(framesL ls).length≤35184372088832) :
  Calls Tryz.prog 103 #[v,vs] w (PutsLeft w.heap.size (l++framesL ls) w):=by
 obtain ⟨p,cap,rfl,hlc,hcm⟩:=hr.shape
 obtain ⟨q,capq,rfl,hqc,hqm⟩:=hs.shape
 unfold maxLen at hcm hqm
 have HR:=Lib.hid hr
 have HS:=Lib.hid hs
 have HA:=Lib.hid hall
 obtain ⟨X,hX⟩:∃ X,l++framesL ls=X:=⟨_,rfl⟩
 rw [hX]
 have HX:=Lib.hid hX
 clear hr hs hall hX
 go_enter Tryz.func103,Tryz.ntmps103
 go_wp2_with fail
 go_loop [6,16] (fun s i=>∃ k z:Nat,k≤ls.length∧i=.int .i64 k∧s=.int .i64 z∧z=l.length+(framesL (ls.take k)).length) (fun _ i=>ls.length - (intOf i).toNat)
 case atStart=>exact ⟨0,l.length,by omega,rfl,rfl,by simp [framesL]⟩
 case round =>
  obtain ⟨k,z,hk,rfl,rfl,hz⟩:=hrel
  have htk:=framesL_take ls k
  by_cases hlt:k<ls.length
  ·obtain ⟨b,off,x,rfl,hcell,hx⟩:=HS.out.at_ hlt
   have hpl:=HA.out ls[k] (List.getElem_mem hlt)
   have hsn:=framesL_snoc ls hlt
   have htk1:=framesL_take ls (k+1)
   rw [hsn,List.length_append] at htk1
   have hsz:=sizeL_frame hpl
   have hK:=fun W=>size_fr (ls[k].length:Int) W (by omega) (by omega)
   rw [hsz] at hK
   have hzf:z+(frameL ls[k]).length≤35184372088832:=by omega
   have hz2:z+(frameL ls[k]).length=l.length+(framesL (ls.take (k+1))).length:=by rw [hsn,List.length_append];omega
   generalize ls[k]=y at *
   obtain ⟨p2,cap2,rfl,hlc2,hcm2⟩:=hx.shape
   have hf14:=frameL_bounds y
   generalize (frameL y).length=F at *
   unfold maxLen at hcm2
   have HK:=Lib.hid hK
   have HZ:=Lib.hid hz2
   clear hK hx hsn hz2 hz htk htk1 hsz
   go_wp2_with fail
   refine (HK.out _).mono ?_
   rintro e w1 ⟨rfl,rfl⟩
   go_wp2_with fail
   go_round
   case rel=>exact ⟨k+1,z+F,by omega,by go_num,by go_num,HZ.out⟩
   case measure=>simp [intOf];omega
  ·obtain rfl:k=ls.length:=by omega
   rw [List.take_length] at hz
   clear htk hlt hk
   go_wp2_with (at_make;refine wpList_make_bytes rfl _ rfl w.heap.size _ z rfl rfl (by omega) (Nat.le_refl _) ?_)
   intro v1 w1 hown1 hb1
   have hsz1:=hb1.size
   have HO1:=Lib.hid hown1
   have HR1:=Lib.hid (HR.out.below hb1)
   have hl0:([]:List UInt8).length+l.length≤140737488355328:=by rw [List.length_nil];omega
   clear hown1
   go_wp2_with (at_builtin;refine wpList_append_bytes rfl _ _ rfl w.heap.size _ [] rfl HO1.out _ l rfl HR1.out hl0 hsz1 ?_)
   intro v2 w2 hown2 hb2
   have hb3:=hb1.trans hb2
   have HO2:Hid (OwnB w.heap.size w2 v2 (l++framesL (ls.take 0))):=Lib.hid (by rw [List.take_zero,framesL_nil,List.append_nil];exact hown2)
   clear hown2 hb1 hb2
   go_wp2_with fail
   go_loopw [9,35] (fun u i wr=>∃ k:Nat,k≤ls.length∧i=.int .i64 k∧Hid (OwnB w.heap.size wr u (l++framesL (ls.take k)))∧Hid (Below w.heap.size w wr)) (fun _ i _=>ls.length - (intOf i).toNat)
   case atStart=>exact ⟨0,by omega,rfl,HO2,Lib.hid hb3⟩
   case round =>
    obtain ⟨k,hk,rfl,HO,HB⟩:=hrel
    clear HO2 HO1 HR1
    have htk:=framesL_take ls k
    by_cases hlt:k<ls.length
    ·obtain ⟨b,off,x,rfl,hcell,hx⟩:=HS.out.at_ hlt
     have hcell2:=(HB.out.cell (p:=⟨b,off+k,none⟩) (cell_lt hcell)).trans hcell
     have hpl:=HA.out ls[k] (List.getElem_mem hlt)
     have hsn:=framesL_snoc ls hlt
     have htk1:=framesL_take ls (k+1)
     rw [hsn,List.length_append] at htk1
     have hxi:BIn w.heap.size wr x ls[k]:=BIn.below hx HB.out
     have hK:=appf_any w.heap.size _ x (l++framesL (ls.take k)) ls[k] wr HO.out hxi hpl (by rw [List.length_append];omega) HB.out.size
     rw [List.append_assoc,← hsn] at hK
     obtain ⟨p2,cap2,rfl,hlc2,hcm2⟩:=hx.shape
     have HK:=Lib.hid hK
     clear hK hx hsn htk1 htk hxi hcell
     go_wp2_with fail
     refine HK.out.mono ?_
     rintro e w4 ⟨v4,rfl,hown4,hb4⟩
     have HO4:=Lib.hid hown4
     have HB4:=Lib.hid (HB.out.trans hb4)
     clear hown4 hb4
     go_wp2_with fail
     go_roundw
     case rel=>exact ⟨k+1,by omega,by go_num,HO4,HB4⟩
     case measure=>simp [intOf];omega
    ·obtain rfl:k=ls.length:=by omega
     have hown:=HO.out
     rw [List.take_length,HX.out] at hown
     have HF:=Lib.hid hown
     clear hown HO htk
     go_wp2_with fail
     go_ret2
     exact ⟨_,rfl,HF.out,HB.out⟩
theorem join_fr (v:Value) (ls:List (List UInt8)) (w:World) (hs:PRow w v ls) (hall:∀ p∈ls,p.length≤16777216) (hlen:(framesL ls).length≤35184372088832) :
  Calls Tryz.prog 54 #[v] w (PutsLeft w.heap.size (framesL ls) w):=by
 have h:=all_any (.slice none 0 0) v [] ls w (BRow.nil_ w) hs hall (by rw [List.length_nil];omega)
 rw [List.nil_append] at h
 generalize framesL ls=X at *
 have HH:=Lib.hid h
 clear h hs
 go_enter Tryz.func54,Tryz.ntmps54
 go_wp2_with fail
 refine HH.out.mono ?_
 rintro e w1 ⟨v1,rfl,hown,hb⟩
 have HO:=Lib.hid hown
 clear hown
 go_wp2_with fail
 go_ret2
 exact ⟨_,rfl,HO.out,hb⟩
end Go.Proofs.YtdfibahafilklaaGreatDoor.FP
