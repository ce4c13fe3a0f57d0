import Derived.Test.YtdfibahafilklaaGreatDoorZC32
set_option maxRecDepth 100000
set_option maxHeartbeats 8000000
set_option linter.unusedVariables false
set_option linter.unusedSimpArgs false
namespace Go.Proofs.YtdfibahafilklaaGreatDoor.FG
open Go.RowKit MM VM CM FM VP CR FP VG
theorem first_val (x0 x1 x2 x3:Nat) (h0:x0<256) (h1:x1<256) (h2:x2<256) (h3:x3<256) :
  bits .or .u32 (bits .or .u32 (bits .or .u32 ((x0:Int)*16777216) ((x1:Int)*65536)) ((x2:Int)*256)) (x3:Int)=((x0*16777216+x1*65536+x2*256+x3:Nat):Int):=by
 have o:∀ a b i:Nat,b<2^i→2^i*a ||| b=2^i*a+b:=fun a b i hb=>(Nat.two_pow_add_eq_or_of_lt hb a).symm
 rw [show (x0:Int)*16777216=((x0*16777216:Nat):Int) by omega,show (x1:Int)*65536=((x1*65536:Nat):Int) by omega,show (x2:Int)*256=((x2*256:Nat):Int) by omega]
 have e1:=o x0 (x1*65536) 24 (by omega)
 rw [show 2^24*x0=x0*16777216 by omega] at e1
 rw [u32_or_nat _ _ (by omega) (by omega),e1]
 have e2:=o (x0*256+x1) (x2*256) 16 (by omega)
 rw [show 2^16*(x0*256+x1)=x0*16777216+x1*65536 by omega] at e2
 rw [u32_or_nat _ _ (by omega) (by omega),e2]
 have e3:=o (x0*65536+x1*256+x2) x3 8 (by omega)
 rw [show 2^8*(x0*65536+x1*256+x2)=x0*16777216+x1*65536+x2*256 by omega] at e3
 rw [u32_or_nat _ _ (by omega) (by omega),e3]
theorem fsum_at:∀ (l:List UInt8) (h:4≤l.length),fsum (l.take 4)=l[0].toNat*16777216+l[1].toNat*65536+l[2].toNat*256+l[3].toNat
 | a::b::c::d::l,_=>rfl
 | [],h=>by simp at h
 | [_],h=>by simp at h
 | [_,_],h=>by simp at h
 | [_,_,_],h=>by simp at h
theorem ret_u {k:IntKind} {a b:Int} (h:a=b):Ending.returned (.int k a)=.returned (.int k b):=by rw [h]
theorem first_any (v:Value) (l:List UInt8) (w:World) (hr:BRow w v l) (hl:4≤l.length) :
  Calls Tryz.prog 130 #[v] w fun e w'=>e=.returned (.int .u32 (fsum (l.take 4)))∧Below w.heap.size w w':=by
 obtain ⟨p,cap,rfl,hlc,hcm⟩:=hr.shape
 obtain ⟨b,off,rfl,hbl,c0⟩:=hr.at_ (k:=0) (by omega)
 obtain ⟨b1,off1,hp1,_,c1⟩:=hr.at_ (k:=1) (by omega)
 obtain ⟨b2,off2,hp2,_,c2⟩:=hr.at_ (k:=2) (by omega)
 obtain ⟨b3,off3,hp3,_,c3⟩:=hr.at_ (k:=3) (by omega)
 simp only [Option.some.injEq,Addr.mk.injEq] at hp1 hp2 hp3
 obtain ⟨rfl,rfl,_⟩:=hp1
 obtain ⟨rfl,rfl,_⟩:=hp2
 obtain ⟨rfl,rfl,_⟩:=hp3
 have h0:=l[0].toNat_lt
 have h1:=l[1].toNat_lt
 have h2:=l[2].toNat_lt
 have h3:=l[3].toNat_lt
 have he:=fsum_at l hl
 generalize l[0].toNat=x0 at *
 generalize l[1].toNat=x1 at *
 generalize l[2].toNat=x2 at *
 generalize l[3].toNat=x3 at *
 have hv:=first_val x0 x1 x2 x3 h0 h1 h2 h3
 rw [← he] at hv
 generalize fsum (l.take 4)=F at *
 have HV:=Lib.hid hv
 clear hr hv he
 rw [Nat.add_zero] at c0
 go_enter Tryz.func130,Tryz.ntmps130
 go_wp2_with fail
 go_quiet (fail)
 go_wp2_with fail
 go_ret
 exact ⟨ret_u HV.out,MM.below_drewN (Below.refl _ _) nq⟩
def GotNew (B:Nat) (p:List UInt8) (er:Int) (rest:List UInt8) (w:World) (e:Ending) (w':World):Prop :=
 ∃ vp vr,e=.returned (.tuple #[vp,vr,.int .i64 er])∧OwnB w.heap.size w' vp p∧BIn B w' vr rest∧Below w.heap.size w w'
theorem rl_ok {l:List UInt8} {n k:Nat} (h:getL l=(n,k,0)):restL l=l.drop k:=by unfold restL;rw [h];rfl
theorem rl_short {l:List UInt8} (h:getL l=(0,0,6)):restL l=[]:=by unfold restL;rw [h];rfl
theorem rl_bad {l:List UInt8} (h:getL l=(0,0,20)):restL l=[]:=by unfold restL;rw [h];rfl
theorem get_new (B:Nat) (v:Value) (l:List UInt8) (w:World) (hr:BIn B w v l) (hB:B≤w.heap.size) :
  Calls Tryz.prog 93 #[v] w (GotNew B (getR l).1 (getR l).2.2 (restR l) w):=by
 obtain ⟨p,cap,rfl,hlc,hcm⟩:=hr.shape
 unfold maxLen at hcm
 have k1:=get_in B _ l w hr hB
 rcases FM.getL_cases l with ⟨n,k,hg,hb,hk1,hk2⟩ | hg | hg
 ·rw [hg,rl_ok hg] at k1
  by_cases hn:n≤16777216
  ·have hR:=getR_ok hg hn
   have hrl:(l.drop k).length=l.length - k:=List.length_drop
   obtain ⟨Y,hY⟩:∃ Y,l.drop k=Y:=⟨_,rfl⟩
   rw [hY] at k1 hR hrl
   have K1:=Lib.hid k1
   have t1:decide ((n:Int)>16777216)=false:=by simp;omega
   by_cases hs:Y.length<4+n
   ·rw [if_pos hs] at hR
    rw [hR,restR_err hR (by omega)]
    clear hR k1 hr hg hY
    go_enter Tryz.func93,Tryz.ntmps93
    go_wp2_with fail
    refine K1.out.mono ?_
    rintro e w1 ⟨v1,rfl,hrow,hb1⟩
    obtain ⟨p2,cap2,rfl,hlc2,hcm2⟩:=hrow.shape
    unfold maxLen at hcm2
    clear hrow
    go_wp2_with fail
    go_ret3
    exact ⟨_,_,rfl,own_nil w.heap.size _,BIn.nil_ _ _,hb1⟩
   ·rw [if_neg hs] at hR
    have HR:=Lib.hid hR
    have HL:=Lib.hid hr
    have hsub:(l.length:Int) - (Y.length:Int)=(k:Int):=by omega
    have HYY:=Lib.hid hY
    clear hR k1 hr hg hY
    go_enter Tryz.func93,Tryz.ntmps93
    go_wp2_with fail
    refine K1.out.mono ?_
    rintro e w1 ⟨v1,rfl,hrow,hb1⟩
    obtain ⟨p2,cap2,rfl,hlc2,hcm2⟩:=hrow.shape
    unfold maxLen at hcm2
    have HY:=Lib.hid hrow
    obtain ⟨b,off,rfl,hbl,hc0⟩:=hrow.at_ (k:=0) (by omega)
    clear hc0
    have i1:(k:Int)≤(cap:Int):=by omega
    have i2:(4:Int)+n≤(Y.length:Int):=by omega
    have i3:(Y.length:Int)≤(cap2:Int):=by omega
    have HRL:=Lib.hid hrl
    have hP:BIn B w1 (.slice (if cap2=4 then some ⟨b,off,none⟩ else some ⟨b,off+4,none⟩) n (cap2 - 4)) ((Y.drop 4).take n):=by
     have h:=(hrow.drop 4 (by omega)).take n (by omega)
     rw [Option.map_some,add_at] at h
     exact h
    have hQ:BIn B w1 (.slice (if cap2=4+n then some ⟨b,off,none⟩ else some ⟨b,off+(4+n),none⟩) (Y.length - (4+n)) (cap2 - (4+n))) (Y.drop (4+n)):=by
     have h:=hrow.drop (4+n) (by omega)
     rw [Option.map_some,add_at] at h
     exact h
    have hH:BIn B w (.slice p k cap) (l.take k):=HL.out.take k hk2
    have HP:=Lib.hid hP
    have HQ:=Lib.hid hQ
    have HH:=Lib.hid (hH.below (hb1.mono hB))
    have hfst:=fun W (h:BRow W (.slice (some ⟨b,off,none⟩) Y.length cap2) Y)=>first_any _ _ W h (by omega)
    have hpl:((Y.drop 4).take n).length=n:=by rw [List.length_take,List.length_drop];omega
    have hdd:l.drop (k+(4+n))=Y.drop (4+n):=by rw [← HYY.out,List.drop_drop]
    generalize fsum (Y.take 4)=F1 at *
    generalize Y.drop (4+n)=YR at *
    generalize (Y.drop 4).take n=YP at *
    generalize l.take k=LH at *
    have HF:=Lib.hid hfst
    have HDD:=Lib.hid hdd
    have hn2:n≤16777216:=hn
    clear hrow hrl hP hQ hH hfst hdd
    go_wp2_with fail
    go_quiet (fail)
    generalize (if cap2=4 then some (⟨b,off,none⟩:Addr) else some ⟨b,off+4,none⟩)=q1 at *
    generalize (if cap2=4+n then some (⟨b,off,none⟩:Addr) else some ⟨b,off+(4+n),none⟩)=q2 at *
    obtain ⟨W,hW⟩:∃ W,w1.drewN nq=W:=⟨_,rfl⟩
    have hbW:Below w1.heap.size w1 W:=by rw [← hW];exact MM.below_drewN (Below.refl _ _) nq
    rw [hW]
    have HYW:=Lib.hid ((HY.out.below (hbW.mono (by have:=hb1.size;omega))).row (by have:=hb1.size;have:=hbW.size;omega))
    go_wp2_with fail
    refine (HF.out W HYW.out).mono ?_
    rintro e w2 ⟨rfl,hb2⟩
    have hc:=grow hb1 (grow hbW hb2)
    have hcB:Below B w1 w2:=(grow hbW hb2).mono (by have:=hb1.size;omega)
    have hszB:B≤w2.heap.size:=by have:=hc.size;omega
    have HH2:=Lib.hid ((HH.out.below hcB).row hszB)
    have HP2:=Lib.hid ((HP.out.below hcB).row hszB)
    rw [← hpl] at HP2
    have hK:=Lib.hid (flat_two LH YP▸sum_any _ _ _ (prow_two HH2.out HP2.out))
    rw [hpl] at hK HP2
    have hba:Below w2.heap.size w2 (w2.alloc (.cells #[.slice p k cap,.slice q1 n (cap2 - 4)] 31)):=(Below.refl _ _).alloc (Nat.le_refl _) _
    have HQ2:=Lib.hid (HQ.out.below hcB)
    by_cases heq:F1=sumL (LH++YP)
    ·have hR:=HR.out
     rw [if_neg (by simp [heq])] at hR
     have HRs:=Lib.hid (restR_ok hR)
     generalize sumL (LH++YP)=F2 at *
     subst heq
     have tne:((F1:Int) != (F1:Int))=false:=by simp
     have HR2:=Lib.hid hR
     clear hR HR
     go_wp2_with fail
     refine hK.out.mono ?_
     rintro e w3 ⟨rfl,hb3⟩
     have hb4:=grow hba hb3
     have HP3:=Lib.hid (clone_any _ YP w3 (HP2.out.below hb4) (by omega))
     have HQ3:=Lib.hid (HQ2.out.below (hb4.mono hszB))
     go_wp2_with fail
     refine HP3.out.mono ?_
     rintro e w4 ⟨v4,rfl,hown4,hb5⟩
     have HO4:=Lib.hid (hown4.weaken (B':=w.heap.size) (Nat.le_trans hc.size hb4.size))
     have HQ4:=Lib.hid (HQ3.out.below (hb5.mono (by have:=hb4.size;omega)))
     have hend:=grow (grow hc hb4) hb5
     clear hown4
     go_wp2_with fail
     go_ret3
     rw [HRs.out,HR2.out,HDD.out]
     exact ⟨_,_,rfl,HO4.out,HQ4.out,hend⟩
    ·have hR:=HR.out
     rw [if_pos heq] at hR
     have HRs:=Lib.hid (restR_err hR (by omega))
     generalize sumL (LH++YP)=F2 at *
     have tne:((F1:Int) != (F2:Int))=true:=by rw [bne_iff_ne];omega
     have HR2:=Lib.hid hR
     clear hR HR
     go_wp2_with fail
     refine hK.out.mono ?_
     rintro e w3 ⟨rfl,hb3⟩
     have hend:=grow hc (grow hba hb3)
     go_wp2_with fail
     go_ret3
     rw [HRs.out,HR2.out]
     exact ⟨_,_,rfl,own_nil w.heap.size _,BIn.nil_ _ _,hend⟩
  ·have hR:=getR_most hg (by omega)
   rw [hR,restR_err hR (by omega)]
   have K1:=Lib.hid k1
   have t1:decide ((n:Int)>16777216)=true:=by simp;omega
   clear k1 hR hr hg
   go_enter Tryz.func93,Tryz.ntmps93
   go_wp2_with fail
   refine K1.out.mono ?_
   rintro e w1 ⟨v1,rfl,hrow,hb1⟩
   clear hrow
   go_wp2_with fail
   go_ret3
   exact ⟨_,_,rfl,own_nil w.heap.size _,BIn.nil_ _ _,hb1⟩
 ·have hR:=getR_short hg
  rw [hg,rl_short hg] at k1
  rw [hR,restR_err hR (by omega)]
  have K1:=Lib.hid k1
  clear k1 hR hr hg
  go_enter Tryz.func93,Tryz.ntmps93
  go_wp2_with fail
  refine K1.out.mono ?_
  rintro e w1 ⟨v1,rfl,hrow,hb1⟩
  clear hrow
  go_wp2_with fail
  go_ret3
  exact ⟨_,_,rfl,own_nil w.heap.size _,BIn.nil_ _ _,hb1⟩
 ·have hR:=getR_bad hg
  rw [hg,rl_bad hg] at k1
  rw [hR,restR_err hR (by omega)]
  have K1:=Lib.hid k1
  clear k1 hR hr hg
  go_enter Tryz.func93,Tryz.ntmps93
  go_wp2_with fail
  refine K1.out.mono ?_
  rintro e w1 ⟨v1,rfl,hrow,hb1⟩
  clear hrow
  go_wp2_with fail
  go_ret3
  exact ⟨_,_,rfl,own_nil w.heap.size _,BIn.nil_ _ _,hb1⟩
end Go.Proofs.YtdfibahafilklaaGreatDoor.FG
