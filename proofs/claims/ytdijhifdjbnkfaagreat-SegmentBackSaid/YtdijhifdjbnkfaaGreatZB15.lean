import Derived.Test.YtdijhifdjbnkfaaGreatZB13
import Derived.Test.YtdijhifdjbnkfaaGreatZB12
import Derived.Test.YtdijhifdjbnkfaaGreatZB2
import Derived.Test.YtdijhifdjbnkfaaGreatZB14
import Derived.Test.YtdijhifdjbnkfaaGreatZB11
set_option linter.unusedVariables false
set_option linter.unusedSimpArgs false
namespace Go.Proofs.YtdijhifdjbnkfaaGreat.FG
open Go.RowKit Go.Proofs.YtdijhifdjbnkfaaGreat.MM Go.Proofs.YtdijhifdjbnkfaaGreat.VM Go.Proofs.YtdijhifdjbnkfaaGreat.CM Go.Proofs.YtdijhifdjbnkfaaGreat.FM Go.Proofs.YtdijhifdjbnkfaaGreat.VP Go.Proofs.YtdijhifdjbnkfaaGreat.CR Go.Proofs.YtdijhifdjbnkfaaGreat.FP Go.Proofs.YtdijhifdjbnkfaaGreat.VG
theorem first_val (x0 x1 x2 x3:Nat) (h0:x0<256) (h1:x1<256) (h2:x2<256) (h3:x3<256) :
  bits .or .u32 (bits .or .u32 (bits .or .u32 ((x0:Int)*16777216) ((x1:Int)*65536)) ((x2:Int)*256)) (x3:Int)=((x0*16777216+x1*65536+x2*256+x3:Nat):Int):=by
 have o:∀ a b i:Nat,b<2^i→2^i*a ||| b=2^i*a+b:=fun a b i hb=>(Nat.two_pow_add_eq_or_of_lt hb a).symm
 rw [show (x0:Int)*16777216=((x0*16777216:Nat):Int) by omega,show (x1:Int)*65536=((x1*65536:Nat):Int) by omega,show (x2:Int)*256=((x2*256:Nat):Int) by omega]
 have e1:=o x0 (x1*65536) 24 (by omega)
 rw [show 2^24*x0=x0*16777216 by omega] at e1
 rw [u32_or_nat _ _ (by omega) (by omega),e1]
 have e2:=o (x0*256+x1) (x2*256) 16 (by omega)
 rw [show 2^16*(x0*256+x1)=x0*16777216+x1*65536 by omega] at e2
 rw [u32_or_nat _ _ (by omega) (by omega),e2]
 have e3:=o (x0*65536+x1*256+x2) x3 8 (by omega)
 rw [show 2^8*(x0*65536+x1*256+x2)=x0*16777216+x1*65536+x2*256 by omega] at e3
 rw [u32_or_nat _ _ (by omega) (by omega),e3]
theorem fsum_at:∀ (l:List UInt8) (h:4≤l.length),fsum (l.take 4)=l[0].toNat*16777216+l[1].toNat*65536+l[2].toNat*256+l[3].toNat
 | a::b::c::d::l,_=>rfl
 | [],h=>by simp at h
 | [_],h=>by simp at h
 | [_,_],h=>by simp at h
 | [_,_,_],h=>by simp at h
theorem ret_u {k:IntKind} {a b:Int} (h:a=b):Ending.returned (.int k a)=.returned (.int k b):=by rw [h]
set_option maxRecDepth 100000 in
set_option maxHeartbeats 1000000 in
theorem first_any (v:Value) (l:List UInt8) (w:World) (hr:BRow w v l) (hl:4≤l.length) :
  Calls Tryz.prog 154 #[v] w fun e w'=>e=.returned (.int .u32 (fsum (l.take 4)))∧Below w.heap.size w w':=by
 obtain ⟨p,cap,rfl,hlc,hcm⟩:=hr.shape
 obtain ⟨b,off,rfl,hbl,c0⟩:=hr.at_ (k:=0) (by omega)
 obtain ⟨b1,off1,hp1,_,c1⟩:=hr.at_ (k:=1) (by omega)
 obtain ⟨b2,off2,hp2,_,c2⟩:=hr.at_ (k:=2) (by omega)
 obtain ⟨b3,off3,hp3,_,c3⟩:=hr.at_ (k:=3) (by omega)
 simp only [Option.some.injEq,Addr.mk.injEq] at hp1 hp2 hp3
 obtain ⟨rfl,rfl,_⟩:=hp1
 obtain ⟨rfl,rfl,_⟩:=hp2
 obtain ⟨rfl,rfl,_⟩:=hp3
 have h0:=l[0].toNat_lt
 have h1:=l[1].toNat_lt
 have h2:=l[2].toNat_lt
 have h3:=l[3].toNat_lt
 have he:=fsum_at l hl
 generalize l[0].toNat=x0 at *
 generalize l[1].toNat=x1 at *
 generalize l[2].toNat=x2 at *
 generalize l[3].toNat=x3 at *
 have hv:=first_val x0 x1 x2 x3 h0 h1 h2 h3
 rw [← he] at hv
 generalize fsum (l.take 4)=F at *
 have HV:=Lib.hid hv
 clear hr hv he
 rw [Nat.add_zero] at c0
 go_enter Tryz.func154,Tryz.ntmps154
 go_wp2_with fail
 go_quiet (fail)
 go_wp2_with fail
 go_ret
 exact ⟨ret_u HV.out,MM.below_drewN (Below.refl _ _) nq⟩
def GotNew (B:Nat) (p:List UInt8) (er:Int) (rest:List UInt8) (w:World) (e:Ending) (w':World):Prop :=
 ∃ vp vr,e=.returned (.tuple #[vp,vr,.int .i64 er])∧OwnB w.heap.size w' vp p∧BIn B w' vr rest∧Below w.heap.size w w'
theorem rl_ok {l:List UInt8} {n k:Nat} (h:getL l=(n,k,0)):restL l=l.drop k:=by unfold restL;rw [h];rfl
theorem rl_short {l:List UInt8} (h:getL l=(0,0,6)):restL l=[]:=by unfold restL;rw [h];rfl
theorem rl_bad {l:List UInt8} (h:getL l=(0,0,20)):restL l=[]:=by unfold restL;rw [h];rfl
set_option maxRecDepth 100000 in
set_option maxHeartbeats 1000000 in
theorem get_new (B:Nat) (v:Value) (l:List UInt8) (w:World) (hr:BIn B w v l) (hB:B≤w.heap.size) :
  Calls Tryz.prog 100 #[v] w (GotNew B (getR l).1 (getR l).2.2 (restR l) w):=by
 obtain ⟨p,cap,rfl,hlc,hcm⟩:=hr.shape
 unfold maxLen at hcm
 have k1:=get_in B _ l w hr hB
 rcases FM.getL_cases l with ⟨n,k,hg,hb,hk1,hk2⟩ | hg | hg
 ·rw [hg,rl_ok hg] at k1
  by_cases hn:n≤16777216
  ·have hR:=getR_ok hg hn
   have hrl:(l.drop k).length=l.length - k:=List.length_drop
   obtain ⟨Y,hY⟩:∃ Y,l.drop k=Y:=⟨_,rfl⟩
   rw [hY] at k1 hR hrl
   have K1:=Lib.hid k1
   have t1:decide ((n:Int)>16777216)=false:=by simp;omega
   by_cases hs:Y.length<4+n
   ·rw [if_pos hs] at hR
    rw [hR,restR_err hR (by omega)]
    clear hR k1 hr hg hY
    go_enter Tryz.func100,Tryz.ntmps100
    go_wp2_with fail
    refine K1.out.mono ?_
    rintro e w1 ⟨v1,rfl,hrow,hb1⟩
    obtain ⟨p2,cap2,rfl,hlc2,hcm2⟩:=hrow.shape
    unfold maxLen at hcm2
    clear hrow
    go_wp2_with fail
    go_ret3
    exact ⟨_,_,rfl,own_nil w.heap.size _,BIn.nil_ _ _,hb1⟩
   ·rw [if_neg hs] at hR
    have HR:=Lib.hid hR
    have HL:=Lib.hid hr
    have hsub:(l.length:Int) - (Y.length:Int)=(k:Int):=by omega
    have HYY:=Lib.hid hY
    clear hR k1 hr hg hY
    go_enter Tryz.func100,Tryz.ntmps100
    go_wp2_with fail
    refine K1.out.mono ?_
    rintro e w1 ⟨v1,rfl,hrow,hb1⟩
    obtain ⟨p2,cap2,rfl,hlc2,hcm2⟩:=hrow.shape
    unfold maxLen at hcm2
    have HY:=Lib.hid hrow
    obtain ⟨b,off,rfl,hbl,hc0⟩:=hrow.at_ (k:=0) (by omega)
    clear hc0
    have i1:(k:Int)≤(cap:Int):=by omega
    have i2:(4:Int)+n≤(Y.length:Int):=by omega
    have i3:(Y.length:Int)≤(cap2:Int):=by omega
    have HRL:=Lib.hid hrl
    have hP:BIn B w1 (.slice (if cap2=4 then some ⟨b,off,none⟩ else some ⟨b,off+4,none⟩) n (cap2 - 4)) ((Y.drop 4).take n):=by
     have h:=(hrow.drop 4 (by omega)).take n (by omega)
     rw [Option.map_some,add_at] at h
     exact h
    have hQ:BIn B w1 (.slice (if cap2=4+n then some ⟨b,off,none⟩ else some ⟨b,off+(4+n),none⟩) (Y.length - (4+n)) (cap2 - (4+n))) (Y.drop (4+n)):=by
     have h:=hrow.drop (4+n) (by omega)
     rw [Option.map_some,add_at] at h
     exact h
    have hH:BIn B w (.slice p k cap) (l.take k):=HL.out.take k hk2
    have HP:=Lib.hid hP
    have HQ:=Lib.hid hQ
    have HH:=Lib.hid (hH.below (hb1.mono hB))
    have hfst:=fun W (h:BRow W (.slice (some ⟨b,off,none⟩) Y.length cap2) Y)=>first_any _ _ W h (by omega)
    have hpl:((Y.drop 4).take n).length=n:=by rw [List.length_take,List.length_drop];omega
    have hdd:l.drop (k+(4+n))=Y.drop (4+n):=by rw [← HYY.out,List.drop_drop]
    generalize fsum (Y.take 4)=F1 at *
    generalize Y.drop (4+n)=YR at *
    generalize (Y.drop 4).take n=YP at *
    generalize l.take k=LH at *
    have HF:=Lib.hid hfst
    have HDD:=Lib.hid hdd
    have hn2:n≤16777216:=hn
    clear hrow hrl hP hQ hH hfst hdd
    go_wp2_with fail
    go_quiet (fail)
    generalize (if cap2=4 then some (⟨b,off,none⟩:Addr) else some ⟨b,off+4,none⟩)=q1 at *
    generalize (if cap2=4+n then some (⟨b,off,none⟩:Addr) else some ⟨b,off+(4+n),none⟩)=q2 at *
    obtain ⟨W,hW⟩:∃ W,w1.drewN nq=W:=⟨_,rfl⟩
    have hbW:Below w1.heap.size w1 W:=by rw [← hW];exact MM.below_drewN (Below.refl _ _) nq
    rw [hW]
    have HYW:=Lib.hid ((HY.out.below (hbW.mono (by have:=hb1.size;omega))).row (by have:=hb1.size;have:=hbW.size;omega))
    go_wp2_with fail
    refine (HF.out W HYW.out).mono ?_
    rintro e w2 ⟨rfl,hb2⟩
    have hc:=grow hb1 (grow hbW hb2)
    have hcB:Below B w1 w2:=(grow hbW hb2).mono (by have:=hb1.size;omega)
    have hszB:B≤w2.heap.size:=by have:=hc.size;omega
    have HH2:=Lib.hid ((HH.out.below hcB).row hszB)
    have HP2:=Lib.hid ((HP.out.below hcB).row hszB)
    rw [← hpl] at HP2
    have hK:=Lib.hid (flat_two LH YP▸sum_any _ _ _ (prow_two HH2.out HP2.out))
    rw [hpl] at hK HP2
    have hba:Below w2.heap.size w2 (w2.alloc (.cells #[.slice p k cap,.slice q1 n (cap2 - 4)] 23)):=(Below.refl _ _).alloc (Nat.le_refl _) _
    have HQ2:=Lib.hid (HQ.out.below hcB)
    by_cases heq:F1=sumL (LH++YP)
    ·have hR:=HR.out
     rw [if_neg (by simp [heq])] at hR
     have HRs:=Lib.hid (restR_ok hR)
     generalize sumL (LH++YP)=F2 at *
     subst heq
     have tne:((F1:Int) != (F1:Int))=false:=by simp
     have HR2:=Lib.hid hR
     clear hR HR
     go_wp2_with fail
     refine hK.out.mono ?_
     rintro e w3 ⟨rfl,hb3⟩
     have hb4:=grow hba hb3
     have HP3:=Lib.hid (clone_any _ YP w3 (HP2.out.below hb4) (by omega))
     have HQ3:=Lib.hid (HQ2.out.below (hb4.mono hszB))
     go_wp2_with fail
     refine HP3.out.mono ?_
     rintro e w4 ⟨v4,rfl,hown4,hb5⟩
     have HO4:=Lib.hid (hown4.weaken (B':=w.heap.size) (Nat.le_trans hc.size hb4.size))
     have HQ4:=Lib.hid (HQ3.out.below (hb5.mono (by have:=hb4.size;omega)))
     have hend:=grow (grow hc hb4) hb5
     clear hown4
     go_wp2_with fail
     go_ret3
     rw [HRs.out,HR2.out,HDD.out]
     exact ⟨_,_,rfl,HO4.out,HQ4.out,hend⟩
    ·have hR:=HR.out
     rw [if_pos heq] at hR
     have HRs:=Lib.hid (restR_err hR (by omega))
     generalize sumL (LH++YP)=F2 at *
     have tne:((F1:Int) != (F2:Int))=true:=by rw [bne_iff_ne];omega
     have HR2:=Lib.hid hR
     clear hR HR
     go_wp2_with fail
     refine hK.out.mono ?_
     rintro e w3 ⟨rfl,hb3⟩
     have hend:=grow hc (grow hba hb3)
     go_wp2_with fail
     go_ret3
     rw [HRs.out,HR2.out]
     exact ⟨_,_,rfl,own_nil w.heap.size _,BIn.nil_ _ _,hend⟩
  ·have hR:=getR_most hg (by omega)
   rw [hR,restR_err hR (by omega)]
   have K1:=Lib.hid k1
   have t1:decide ((n:Int)>16777216)=true:=by simp;omega
   clear k1 hR hr hg
   go_enter Tryz.func100,Tryz.ntmps100
   go_wp2_with fail
   refine K1.out.mono ?_
   rintro e w1 ⟨v1,rfl,hrow,hb1⟩
   clear hrow
   go_wp2_with fail
   go_ret3
   exact ⟨_,_,rfl,own_nil w.heap.size _,BIn.nil_ _ _,hb1⟩
 ·have hR:=getR_short hg
  rw [hg,rl_short hg] at k1
  rw [hR,restR_err hR (by omega)]
  have K1:=Lib.hid k1
  clear k1 hR hr hg
  go_enter Tryz.func100,Tryz.ntmps100
  go_wp2_with fail
  refine K1.out.mono ?_
  rintro e w1 ⟨v1,rfl,hrow,hb1⟩
  clear hrow
  go_wp2_with fail
  go_ret3
  exact ⟨_,_,rfl,own_nil w.heap.size _,BIn.nil_ _ _,hb1⟩
 ·have hR:=getR_bad hg
  rw [hg,rl_bad hg] at k1
  rw [hR,restR_err hR (by omega)]
  have K1:=Lib.hid k1
  clear k1 hR hr hg
  go_enter Tryz.func100,Tryz.ntmps100
  go_wp2_with fail
  refine K1.out.mono ?_
  rintro e w1 ⟨v1,rfl,hrow,hb1⟩
  clear hrow
  go_wp2_with fail
  go_ret3
  exact ⟨_,_,rfl,own_nil w.heap.size _,BIn.nil_ _ _,hb1⟩
end Go.Proofs.YtdijhifdjbnkfaaGreat.FG
namespace Go.Proofs.YtdijhifdjbnkfaaGreat.VG
open Go.RowKit Go.Proofs.YtdijhifdjbnkfaaGreat.MM Go.Proofs.YtdijhifdjbnkfaaGreat.VM Go.Proofs.YtdijhifdjbnkfaaGreat.VP
def Fits (zs:List Int):Prop:=∀ k,k<zs.length → -9223372036854775808≤zs.getD k 0∧zs.getD k 0≤9223372036854775807
theorem all_room (zs:List Int) (k:Nat) (hn:zs.length≤1000000):(allL (zs.take k)).length≤10000000:=by
 have:=allL_length (zs.take k)
 have h2:(zs.take k).length≤zs.length:=List.length_take_le' _ _
 omega
set_option maxRecDepth 100000 in
set_option maxHeartbeats 2000000 in
theorem putall_any (v u:Value) (l:List UInt8) (zs:List Int) (w:World) (hr:BRow w v l) (hu:IRow w u zs) (hz:Fits zs) (hlen:l.length≤1099511627776) (hn:zs.length≤1000000) :
  Calls Tryz.prog 138 #[v,u] w (PutLeft w.heap.size (l++allL zs) w):=by
 obtain ⟨p,cap,rfl,hlc,hcm⟩:=hu.shape
 unfold maxLen at hcm
 have HR:=Lib.hid hr
 have HU:=Lib.hid hu
 have HZ:=Lib.hid hz
 clear hr hu hz
 go_enter Tryz.func138,Tryz.ntmps138
 go_wp2_with fail
 go_loop [5,12] (fun sz i=>∃ k:Nat,k≤zs.length∧i=.int .i64 k∧sz=.int .i64 ((allL (zs.take k)).length:Int)) (fun _ i=>zs.length - (intOf i).toNat)
 case atStart=>exact ⟨0,Nat.zero_le _,rfl,rfl⟩
 case round =>
  obtain ⟨k,hk,rfl,rfl⟩:=hrel
  have hroom:=all_room zs k hn
  by_cases hlt:k<zs.length
  ·obtain ⟨b,off,rfl,hbl,hcell⟩:=HU.out.at_ hlt
   have hf:=HZ.out k hlt
   have hsn:=congrArg List.length (allL_snoc zs k hlt)
   rw [List.length_append] at hsn
   obtain ⟨z,hzz⟩:∃ z,zs.getD k 0=z:=⟨_,rfl⟩
   rw [hzz] at hcell hf hsn
   have k1:=fun W=>zig_any z W hf.1 hf.2
   have k2:=fun W=>size_any (zig z) W (zig_lt hf.1 hf.2)
   unfold intL at hsn
   have hbl2:=(bytesL_length (zig z)).2
   obtain ⟨q,hq⟩:∃ q,zig z=q:=⟨_,rfl⟩
   simp only [hq] at k1 k2 hsn hbl2
   obtain ⟨L,hL⟩:∃ L,(allL (zs.take k)).length=L:=⟨_,rfl⟩
   obtain ⟨M,hM⟩:∃ M,(bytesL q).length=M:=⟨_,rfl⟩
   simp only [hM] at k2 hbl2
   rw [hL,hM] at hsn
   rw [hL] at hroom ⊢
   have K1:=Lib.hid k1
   have K2:=Lib.hid k2
   have HS:=Lib.hid hsn
   clear k1 k2 hsn hzz hf hq hL hM
   go_wp2_with fail
   refine (K1.out _).mono ?_
   rintro e w1 ⟨rfl,rfl⟩
   go_wp2_with fail
   refine (K2.out _).mono ?_
   rintro e w1 ⟨rfl,rfl⟩
   go_wp2_with fail
   go_round
   case rel=>exact ⟨k+1,by omega,by go_num,by rw [HS.out];go_num⟩
   case measure=>simp [intOf];omega
  ·obtain rfl:k=zs.length:=by omega
   rw [List.take_length] at hroom ⊢
   have k1:=fun W (h:BRow W v l)=>room_any v l ((allL zs).length:Int) _ W rfl h (by omega)
   obtain ⟨L,hL⟩:∃ L,(allL zs).length=L:=⟨_,rfl⟩
   simp only [hL] at k1
   rw [hL]
   have K1:=Lib.hid k1
   clear k1 hL
   go_wp2_with fail
   refine (K1.out _ HR.out).mono ?_
   rintro e w1 ⟨v1,rfl,hown1,hb1⟩
   have HO0:Hid (OwnB w.heap.size w1 v1 (l++allL (zs.take 0))):=by
    have e:l++allL (zs.take 0)=l:=by simp [allL]
    rw [e]
    exact Lib.hid hown1
   clear hown1
   go_wp2_with fail
   go_loopw [0,27] (fun bv i wr=>∃ k:Nat,k≤zs.length∧i=.int .i64 k∧Hid (OwnB w.heap.size wr bv (l++allL (zs.take k)))∧Below w.heap.size w wr) (fun _ i _=>zs.length - (intOf i).toNat)
   case atStart=>exact ⟨0,Nat.zero_le _,rfl,HO0,hb1⟩
   case round =>
    obtain ⟨k,hk,rfl,HO,hb⟩:=hrel
    clear HO0
    have hsz:=hb.size
    by_cases hlt:k<zs.length
    ·obtain ⟨b,off,rfl,hbl,hcell⟩:=(HU.out.below hb).at_ hlt
     have hf:=HZ.out k hlt
     have hroom:=all_room zs k hn
     have hsn:=allL_snoc zs k hlt
     obtain ⟨z,hzz⟩:∃ z,zs.getD k 0=z:=⟨_,rfl⟩
     rw [hzz] at hcell hf hsn
     have k1:=fun W=>zig_any z W hf.1 hf.2
     have k2:=fun W x (h:OwnB w.heap.size W x (l++allL (zs.take k))) hB=>app_any w.heap.size x _ (zig z) W (zig_lt hf.1 hf.2) h (by rw [List.length_append];omega) hB
     unfold intL at hsn
     obtain ⟨q,hq⟩:∃ q,zig z=q:=⟨_,rfl⟩
     simp only [hq] at k1 k2 hsn
     have hl2:l++allL (zs.take k)++bytesL q=l++allL (zs.take (k+1)):=by rw [hsn,List.append_assoc]
     rw [hl2] at k2
     have K1:=Lib.hid k1
     have K2:=Lib.hid k2
     clear k1 k2 hsn hzz hf hq hl2 hroom
     go_wp2_with fail
     refine (K1.out _).mono ?_
     rintro e w2 ⟨rfl,rfl⟩
     go_wp2_with fail
     refine (K2.out _ _ HO.out hsz).mono ?_
     rintro e w2 ⟨v2,rfl,hown2,hb2⟩
     have HO2:=Lib.hid hown2
     clear hown2
     go_wp2_with fail
     go_roundw
     case rel=>exact ⟨k+1,by omega,by go_num,HO2,hb.trans hb2⟩
     case measure=>simp [intOf];omega
    ·obtain rfl:k=zs.length:=by omega
     rw [List.take_length] at HO
     go_wp2_with fail
     go_ret
     exact ⟨_,rfl,HO.out,hb⟩
end Go.Proofs.YtdijhifdjbnkfaaGreat.VG
namespace Go.Proofs.YtdijhifdjbnkfaaGreat.DT
open Go Go.RowKit Go.Proofs.YtdijhifdjbnkfaaGreat.MM Go.Proofs.YtdijhifdjbnkfaaGreat.VM
def numSt (m:Nat) (l:List UInt8) (o:Bool):Nat×List UInt8×Bool:=if (getL l).2.2=0∧(getL l).1≤m then ((getL l).1,VG.restL l,o) else (0,[],true)
def txtSt (m:Int) (l:List UInt8) (o:Bool):List UInt8×List UInt8×Bool:=((getT l m).1,VG.restT l m,o||(getT l m).2.2 != 0)
def Rd (B:Nat) (w:World) (g:Nat) (l:List UInt8) (o:Bool):Prop:=∃ v,w.heap[g]? = some (.cells #[v,.bool o] 166 (0,0))∧BIn B w v l
theorem Rd.lt {B:Nat} {w:World} {g:Nat} {l:List UInt8} {o:Bool} (h:Rd B w g l o):g<w.heap.size:=by obtain ⟨v,h,_⟩:=h;exact (Array.getElem?_eq_some_iff.1 h).1
theorem Rd.keep {S:Nat→Prop} {B:Nat} {w w':World} {g:Nat} {l:List UInt8} {o:Bool} (h:Rd B w g l o) (hk:Kep S w w') (hg:S g) (hB:∀ k,k<B→S k) (hBs:B≤w.heap.size):Rd B w' g l o:=by
 have hl:=h.lt
 obtain ⟨v,h,hv⟩:=h
 exact ⟨v,(hk.block g hl hg).trans h,hv.below (hk.below hBs hB)⟩
theorem rd_set0 {B:Nat} {w w1:World} {g:Nat} {l m:List UInt8} {o:Bool} {v:Value} (h:Rd B w g l o) (hb:Below w.heap.size w w1) (hB:B≤g) (hv:BIn B w1 v m):Rd B (w1.setCell ⟨g,0,none⟩ v) g m o:=by
 obtain ⟨v0,h,_⟩:=h
 have hlt:=(Array.getElem?_eq_some_iff.1 h).1
 have h1:=heap_setCell_same w1 g 0 _ _ v ((hb.block g hlt).trans h)
 exact ⟨v,h1,hv.below ((Below.refl B w1).setCell (p:=⟨g,0,none⟩) hB v)⟩
theorem rd_set1 {B:Nat} {w w1:World} {g:Nat} {l m:List UInt8} {o:Bool} {v:Value} (h:Rd B w g l o) (hb:Below w.heap.size w w1) (hB:B≤g) (hv:BIn B w1 v m):Rd B ((w1.setCell ⟨g,0,none⟩ v).setCell ⟨g,1,none⟩ (.bool true)) g m true:=by
 obtain ⟨v0,h,_⟩:=h
 have hlt:=(Array.getElem?_eq_some_iff.1 h).1
 have h1:=heap_setCell_same w1 g 0 _ _ v ((hb.block g hlt).trans h)
 have h2:=heap_setCell_same _ g 1 _ _ (.bool true) h1
 exact ⟨v,h2,(hv.below ((Below.refl B w1).setCell (p:=⟨g,0,none⟩) hB v)).below ((Below.refl B _).setCell (p:=⟨g,1,none⟩) hB (.bool true))⟩
def Took (B g:Nat) (x:Value) (l:List UInt8) (o:Bool) (w:World) (e:Ending) (w':World):Prop:=e=.returned x∧Rd B w' g l o∧Kep (fun b=>b≠g) w w'
set_option maxRecDepth 100000 in
set_option maxHeartbeats 1000000 in
theorem goon_any (B g:Nat) (l m:List UInt8) (o:Bool) (v:Value) (er:Int) (w:World) (h:Rd B w g l o) (hB:B≤g) (hv:BIn B w v m) :
  Calls Tryz.prog 159 #[.pointer (some ⟨g,0,none⟩),v,.int .i64 er] w (Took B g (.tuple #[]) m (o||er != 0) w):=by
 have HR:=Lib.hid h
 have hlt:=h.lt
 obtain ⟨v0,hc,_⟩:=h
 have HV:=Lib.hid hv
 have f0:=cell_of_row w g 0 _ _ _ hc
 have f1:=cell_of_row w g 1 _ _ _ hc
 have f2:=frozen_of_row w g 0 _ _ hc
 have f3:=frozen_of_row w g 1 _ _ hc
 obtain ⟨p1,c1,rfl,_⟩:=hv.shape
 by_cases h0:er=0
 ·subst h0
  have t1:(o||((0:Int) != 0))=o:=by simp
  rw [t1]
  have HQ:=Lib.hid (show Took B g (.tuple #[]) m o w (.returned (.tuple #[])) (w.setCell ⟨g,0,none⟩ (.slice p1 m.length c1)) from ⟨rfl,rd_set0 HR.out (Below.refl _ _) hB HV.out,kep_set (by simp) _⟩)
  clear hv HV HR hc
  go_enter Tryz.func159,Tryz.ntmps159
  go_wp2_with fail
  refine bodyPost_end (results_none rfl _ _ _) rfl ?_
  exact HQ.out
 ·have t0:(er != 0)=true:=by rw [bne_iff_ne];exact h0
  have t1:(o||(er != 0))=true:=by rw [t0];simp
  rw [t1]
  have HQ:=Lib.hid (show Took B g (.tuple #[]) m true w (.returned (.tuple #[])) ((w.setCell ⟨g,0,none⟩ (.slice p1 m.length c1)).setCell ⟨g,1,none⟩ (.bool true)) from ⟨rfl,rd_set1 HR.out (Below.refl _ _) hB HV.out,(kep_set (by simp) _).trans (kep_set (by simp) _)⟩)
  clear hv HV HR hc
  go_enter Tryz.func159,Tryz.ntmps159
  go_wp2_with fail
  refine bodyPost_end (results_none rfl _ _ _) rfl ?_
  exact HQ.out
set_option maxRecDepth 100000 in
set_option maxHeartbeats 1000000 in
theorem text_any (B g:Nat) (most:Int) (l:List UInt8) (o:Bool) (w:World) (h0:0≤most) (h1:most≤9223372036854775807) (h:Rd B w g l o) (hB:B≤g) :
  Calls Tryz.prog 103 #[.pointer (some ⟨g,0,none⟩),.int .i64 most] w (Took B g (.string ⟨(txtSt most l o).1.toArray⟩) (txtSt most l o).2.1 (txtSt most l o).2.2 w):=by
 have HR:=Lib.hid h
 have hlt:=h.lt
 obtain ⟨v,hc,hv⟩:=h
 have f0:w.cell? ⟨g,0,none⟩=some v:=by rw [cell_of_row w g 0 _ _ _ hc];rfl
 have HG:=Lib.hid (VG.gettext_in B v l most w (by omega) h1 hv (Nat.le_of_lt (Nat.lt_of_le_of_lt hB hlt)))
 have HGO:=Lib.hid (fun m v er w1 (h1:Rd B w1 g l o) (h2:BIn B w1 v m)=>goon_any B g l m o v er w1 h1 hB h2)
 unfold txtSt
 dsimp only
 generalize (getT l most).1=n at *
 generalize (getT l most).2.2=er at *
 generalize VG.restT l most=R at *
 have HBS:=Lib.hid (show B≤w.heap.size by omega)
 clear hv hc hlt
 go_enter Tryz.func103,Tryz.ntmps103
 go_wp2_with fail
 refine HG.out.mono ?_
 rintro e w1 ⟨v1,rfl,hv1,hb1⟩
 have hr1:=HR.out.keep (S:=fun _=>True) (kep_below _ hb1) trivial (fun _ _=>trivial) HBS.out
 have HQ:=Lib.hid (HGO.out R v1 er w1 hr1 hv1)
 have HB1:=Lib.hid hb1
 clear hv1 hb1 hr1 HG HGO
 go_wp2_with fail
 refine HQ.out.mono ?_
 rintro e w2 ⟨rfl,h2,k2⟩
 have H2:=Lib.hid h2
 have K2:=Lib.hid k2
 clear h2 k2 HQ
 go_wp2_with fail
 go_ret
 exact ⟨rfl,H2.out,(kep_below _ HB1.out).trans K2.out⟩
set_option maxRecDepth 100000 in
set_option maxHeartbeats 1000000 in
theorem number_any (B g:Nat) (m:Nat) (l:List UInt8) (o:Bool) (w:World) (hm:m≤1099511627776) (h:Rd B w g l o) (hB:B≤g) :
  Calls Tryz.prog 102 #[.pointer (some ⟨g,0,none⟩),.int .i64 m] w (Took B g (.int .i64 (numSt m l o).1) (numSt m l o).2.1 (numSt m l o).2.2 w):=by
 have HR:=Lib.hid h
 have hlt:=h.lt
 obtain ⟨v,hc,hv⟩:=h
 have f0:w.cell? ⟨g,0,none⟩=some v:=by rw [cell_of_row w g 0 _ _ _ hc];rfl
 have HG:=Lib.hid (VG.get_in B v l w hv (Nat.le_of_lt (Nat.lt_of_le_of_lt hB hlt)))
 have HGO:=Lib.hid (fun m v er w1 (h1:Rd B w1 g l o) (h2:BIn B w1 v m)=>goon_any B g l m o v er w1 h1 hB h2)
 have hb:=getL_bounds l
 have herr:(getL l).2.2≠0→(getL l).1=0∧VG.restL l=[]:=fun he=>by
  refine ⟨?_,by unfold VG.restL;rw [if_neg he]⟩
  rcases hb.2.2.1 with e | e | e
  ·exact absurd e he
  ·rw [e]
  ·rw [e]
 have hn:=hb.1
 unfold numSt
 generalize (getL l).1=n at *
 generalize (getL l).2.2=er at *
 generalize VG.restL l=R at *
 have HBS:=Lib.hid (show B≤w.heap.size by omega)
 clear hv hc hlt hb
 by_cases hmn:n≤m
 ·have hst:(if er=0∧n≤m then (n,R,o) else (0,[],true))=(n,R,o||er != 0):=by
   by_cases h0:er=0
   ·subst h0
    rw [if_pos ⟨rfl,hmn⟩];simp
   ·rw [if_neg (fun h=>h0 h.1),(herr h0).1,(herr h0).2]
    have:(er != 0)=true:=by rw [bne_iff_ne];exact h0
    rw [this];simp
  rw [hst]
  have t1:decide ((n:Int)>(m:Int))=false:=decide_eq_false (by omega)
  have t2:IntKind.u64.wrap (m:Int)=(m:Int):=by rw [IntKind.wrap_u64];omega
  have t3:IntKind.i64.wrap (n:Int)=(n:Int):=by rw [IntKind.wrap_i64];omega
  dsimp only
  clear hst herr
  go_enter Tryz.func102,Tryz.ntmps102
  go_wp2_with fail
  refine HG.out.mono ?_
  rintro e w1 ⟨v1,rfl,hv1,hb1⟩
  have hr1:=HR.out.keep (S:=fun _=>True) (kep_below _ hb1) trivial (fun _ _=>trivial) HBS.out
  have HQ:=Lib.hid (HGO.out R v1 er w1 hr1 hv1)
  have HB1:=Lib.hid hb1
  clear hv1 hb1 hr1 HG HGO
  go_wp2_with fail
  refine HQ.out.mono ?_
  rintro e w2 ⟨rfl,h2,k2⟩
  have H2:=Lib.hid h2
  have K2:=Lib.hid k2
  clear h2 k2 HQ
  go_wp2_with fail
  go_ret
  exact ⟨rfl,H2.out,(kep_below _ HB1.out).trans K2.out⟩
 ·have hst:(if er=0∧n≤m then (n,R,o) else (0,[],true))=(0,[],true):=by rw [if_neg (fun h=>hmn h.2)]
  rw [hst]
  have t1:decide ((n:Int)>(m:Int))=true:=decide_eq_true (by omega)
  have t2:IntKind.u64.wrap (m:Int)=(m:Int):=by rw [IntKind.wrap_u64];omega
  dsimp only
  clear hst herr
  go_enter Tryz.func102,Tryz.ntmps102
  go_wp2_with fail
  refine HG.out.mono ?_
  rintro e w1 ⟨v1,rfl,hv1,hb1⟩
  have hr1:=HR.out.keep (S:=fun _=>True) (kep_below _ hb1) trivial (fun _ _=>trivial) HBS.out
  have HQ:=Lib.hid (HGO.out [] (.slice none 0 0) 110 w1 hr1 (BIn.nil_ _ _))
  have HB1:=Lib.hid hb1
  clear hv1 hb1 hr1 HG HGO
  go_wp2_with fail
  refine HQ.out.mono ?_
  rintro e w2 ⟨rfl,h2,k2⟩
  have h2':Rd B w2 g [] true:=by have:=h2;simpa using this
  have H2:=Lib.hid h2'
  have K2:=Lib.hid k2
  clear h2 h2' k2 HQ
  go_wp2_with fail
  go_ret
  exact ⟨rfl,H2.out,(kep_below _ HB1.out).trans K2.out⟩
end Go.Proofs.YtdijhifdjbnkfaaGreat.DT
