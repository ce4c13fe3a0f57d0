import Derived.Test.YtdfibahafilklaaGreatDoorZB47
import Derived.Test.YtdfibahafilklaaGreatDoorZB51
set_option maxRecDepth 100000
set_option maxHeartbeats 8000000
set_option linter.unusedVariables false
set_option linter.unusedSimpArgs false
namespace Go.Proofs.YtdfibahafilklaaGreatDoor.WL
open Go Go.RowKit MM EM WM BR
open FM (getR restR)
open EV (batC bat_on evC ev_at EvS EvB decR decR_some decR_none rdec_new DecNew)
def lenNR:Value→Nat | .slice _ n _=>n | _=>0
theorem first_of {l x:List UInt8} {k:Nat} {er:Int} (hg:getR l=(x,k,er)) :
  (er≠0→firstR l=((0,[]),er))∧(er=0→(decR x).2≠0→firstR l=((0,[]),150))∧(er=0→(decR x).2=0→firstR l=((decR x).1,0)):=by
 unfold firstR
 rw [hg]
 dsimp only
 refine ⟨fun h=>if_pos h,fun h hd => ?_,fun h hd => ?_⟩
 ·rw [if_neg (fun hn=>hn h)]
  cases hx:decB x with
  | none=>rfl
  | some c=>rw [decR_some hx] at hd;exact absurd rfl hd
 ·rw [if_neg (fun hn=>hn h)]
  cases hx:decB x with
  | none=>rw [decR_none hx] at hd;exact absurd hd (by decide)
  | some c=>rw [decR_some hx]
theorem rscan_any (v:Value) (b:List UInt8) (w:World) (hr:BRow w v b) (hbl:b.length≤1000000000000):Calls Tryz.prog 14 #[v] w (ScanLeft b w):=by
 obtain ⟨p0,c0,rfl,hlc,hcm⟩:=hr.shape
 unfold maxLen at hcm
 obtain ⟨NB,hNB⟩:∃ n,b.length=n:=⟨_,rfl⟩
 rw [hNB] at hr hlc hbl ⊢
 have HV:=Lib.hid (show BIn w.heap.size w (.slice p0 NB c0) b from hr)
 have HG0:=Lib.hid (going_start b)
 have HO0:=Lib.hid (BatsOwn.nil_ w.heap.size w)
 have HB0:=Lib.hid (Below.refl w.heap.size w)
 have HNB:=Lib.hid hNB
 clear hr hNB
 go_enter Tryz.func14,Tryz.ntmps14
 go_wp2_with fail
 go_loopw [0,5] (fun lv tv wr=>∃ (bs:List Bat) (l:List UInt8) (p:Option Addr) (n c:Nat) (q:Option Addr) (m d:Nat),tv=.slice q m d∧lv=.slice p n c∧n+m≤NB∧Hid (l.length=n∧bs.length=m)∧Hid (Going b l bs)∧Hid (BatsOwn w.heap.size wr (.slice q m d) bs)∧Hid (BIn w.heap.size wr (.slice p n c) l)∧Hid (Below w.heap.size w wr)) (fun lv _ _=>lenNR lv)
 case atStart=>exact ⟨[],b,p0,NB,c0,none,0,0,rfl,rfl,by omega,Lib.hid ⟨HNB.out,rfl⟩,HG0,HO0,HV,HB0⟩
 case round =>
  obtain ⟨bs,l,p,n,c,q,m,d,rfl,rfl,hnm,HL,HG,HO,HI,HB⟩:=hrel
  clear HG0 HO0 HB0 HV
  have hsw:=HB.out.size
  by_cases hn:0<n
  ·have t1:decide ((n:Int)>0)=true:=by rw [decide_eq_true_eq];omega
   have t2:decide (0<n)=true:=decide_eq_true hn
   have hne:l≠[]:=fun e=>by have:=HL.out.1;rw [e] at this;simp at this;omega
   obtain ⟨g1,g2,g3,g4⟩:=going_step HG.out hne
   have HF:=Lib.hid (FG.rget_part w.heap.size (.slice p n c) l wr HI.out hsw)
   obtain ⟨⟨x,k,er⟩,hgr⟩:∃ g,getR l=g:=⟨_,rfl⟩
   obtain ⟨f1,f2,f3⟩:=first_of hgr
   obtain ⟨LR,hLR⟩:∃ L,restR l=L:=⟨_,rfl⟩
   rw [hgr,hLR] at HF
   rw [hLR] at g3
   dsimp only at HF
   have G1:=Lib.hid g1
   have G2:=Lib.hid g2
   have G3:=Lib.hid g3
   have G4:=Lib.hid g4
   have F1:=Lib.hid f1
   have F2:=Lib.hid f2
   have F3:=Lib.hid f3
   have hq1:wrap64 ((NB:Int) - (n:Int))=((NB - n:Nat):Int):=by unfold wrap64;omega
   have hq2:((NB:Int) - (n:Int))=((NB - n:Nat):Int):=by omega
   have HE0:Hid (b.length - l.length=NB - n):=Lib.hid (by rw [HNB.out,HL.out.1])
   have HMB:Hid (bs.length≤b.length):=Lib.hid (by rw [HNB.out,HL.out.2];omega)
   have hw2:wrap64 ((NB - n:Nat):Int)=((NB - n:Nat):Int):=by unfold wrap64;omega
   clear g1 g2 g3 g4 f1 f2 f3 hgr hLR hne
   go_wp2_with fail
   refine HF.out.mono ?_
   rintro e w1 ⟨vp,vr,rfl,hp,hv,hb1⟩
   obtain ⟨pp,cp,rfl,_⟩:=hp.shape
   obtain ⟨pr,cr,rfl,_⟩:=hv.shape
   have HB1:=Lib.hid (HB.out.trans (hb1.mono hsw))
   have HO1:=Lib.hid (HO.out.below hb1)
   have HV1:=Lib.hid hv
   by_cases he:er=0
   ·subst he
    have hs1:=hb1.size
    have HD:=Lib.hid (rdec_new w.heap.size (.slice pp x.length cp) x w1 hp (by omega))
    obtain ⟨⟨⟨sq,es⟩,fe⟩,hde⟩:∃ f,decR x=f:=⟨_,rfl⟩
    rw [hde] at HD F2 F3
    dsimp only at F2 F3
    have FF2:=Lib.hid (F2.out rfl)
    have FF3:=Lib.hid (F3.out rfl)
    have t3:((0:Int) != 0)=false:=rfl
    unfold DecNew at HD
    dsimp only at HD
    clear hde hp hv hb1 HF HO HI HB F1 F2 F3
    go_wp2_with fail
    refine HD.out.mono ?_
    rintro e w1b ⟨u,rfl,hu,hb1b⟩
    obtain ⟨pu,cu,rfl,_⟩:=hu.shape
    obtain ⟨w2,hw2'⟩:∃ w2,w1b.alloc (.cells #[.int .i64 sq,.slice pu es.length cu] 82)=w2:=⟨_,rfl⟩
    have hb2:Below w1b.heap.size w1b w2:=by rw [← hw2'];exact (Below.refl _ _).alloc (Nat.le_refl _) _
    have hx2:Two w2 w1b.heap.size 82 (.int .i64 sq) (.slice pu es.length cu):=by rw [← hw2'];exact two_new w1b _ _ _
    have hb12:Below w1.heap.size w1 w2:=hb1b.trans (hb2.mono hb1b.size)
    have HB2:=Lib.hid (HB1.out.trans (hb12.mono HB1.out.size))
    have HO2:=Lib.hid (HO1.out.below hb12)
    have HU2:Hid (ROn evC (EvS w.heap.size w2) w2 (.slice pu es.length cu) es):=Lib.hid (by
     have h1:=ROn.keep hu (kep_below _ hb2) (T:=EvS w1.heap.size w2) fun b _ h=>evS_keep (kep_below (fun _=>True) hb2) h trivial
     exact h1.weak fun b _ h=>⟨Nat.le_trans HB1.out.size h.1,h.2⟩)
    have HV2:Hid (BIn w.heap.size w2 (.slice pr LR.length cr) LR):=Lib.hid (BIn.below HV1.out (hb12.mono HB1.out.size))
    have HX2:=Lib.hid hx2
    have HW2:=Lib.hid hw2'
    have y0:=hx2.c0
    have y1:=hx2.c1
    clear hu hb1b hb2 hb12 hx2 hw2' HD HB1 HO1 HV1 hsw
    by_cases hf:fe=0
    ·subst hf
     have hfi:=FF3.out rfl
     rw [hfi] at G1 G2 G3 G4
     dsimp only at G1 G2 G3 G4
     have HSC:Hid (BatOk (sq,es)):=Lib.hid (G4.out (by first | rfl | trivial))
     clear G1 G4 FF2 FF3 hfi
     have t4:((0:Int) != 0)=false:=rfl
     by_cases hm:0<m
     ·have t5:decide ((m:Int)>0)=true:=by rw [decide_eq_true_eq];omega
      have t6:decide (0<m)=true:=decide_eq_true hm
      have hk:m - 1<bs.length:=by rw [HL.out.2];omega
      have e1:wrap64 ((m:Int) - 1)=((m - 1:Nat):Int):=by unfold wrap64;omega
      have e2:((m:Int) - 1)=((m - 1:Nat):Int):=by omega
      obtain ⟨gb,off,ev,rfl,hbl2,_,c1,c2,hfe⟩:=bat_at HO2.out.any hk
      have hw:∀ z,behindW bs z=bs[m - 1].1+(bs[m - 1].2.length:Int):=by
       intro z
       unfold behindW
       rw [List.getLast?_eq_getElem?]
       simp only [HL.out.2]
       rw [List.getElem?_eq_getElem hk]
      have hok:=HG.out.2.1 _ (List.getElem_mem hk)
      obtain ⟨⟨sl,el⟩,hd⟩:∃ d,bs[m - 1]=d:=⟨_,rfl⟩
      rw [hd] at c1 hfe hw hok
      obtain ⟨o1,o2,o3⟩:=hok
      dsimp only at c1 hfe hw o1 o2 o3
      obtain ⟨pe,ce,rfl,hec,hem,_⟩:=hfe.shape
      have e3:wrap64 (sl+(el.length:Int))=sl+(el.length:Int):=by unfold wrap64;omega
      have q1:decide (m - 1<m)=true:=decide_eq_true (by omega)
      have q2:((m - 1:Nat):Int)<(m:Int):=by omega
      have HK1:Hid (m - 1+1=m):=Lib.hid (by omega)
      generalize hK:m - 1=K at *
      clear hd hfe hk o1 o2 o3 hK
      by_cases hbh:sq=sl+(el.length:Int)
      ·have HG3:=Lib.hid (G3.out (by first | rfl | trivial) (by rw [hw];exact hbh))
       have t7:(sq != sl+(el.length:Int))=false:=by rw [bne_eq_false_iff_eq];exact hbh
       clear G2 G3 hbh hw HG
       go_wp2_with (rw [HW2.out])
       go_quiet (fail)
       obtain ⟨wd,hwd⟩:∃ wd,w2.drewN nq=wd:=⟨_,rfl⟩
       have hbd:Below w2.heap.size w2 wd:=by rw [← hwd];exact MM.below_drewN (Below.refl _ _) _
       have HO3:=Lib.hid (HO2.out.below hbd)
       have HB3:=Lib.hid (HB2.out.trans (hbd.mono HB2.out.size))
       have HU3:Hid (ROn evC (EvS w.heap.size wd) wd (.slice pu es.length cu) es):=Lib.hid (ROn.keep HU2.out (kep_below _ hbd) fun b _ h=>evS_keep (kep_below (fun _=>True) hbd) h trivial)
       have HV3:=Lib.hid (BIn.below HV2.out (hbd.mono HB2.out.size))
       have hx3:=HX2.out.below hbd HX2.out.lt
       have y0:=hx3.c0
       have y1:=hx3.c1
       have hsx:=hx3.lt
       rw [hwd]
       obtain ⟨wa,hwa⟩:∃ wa,wd.alloc (.cells #[.int .i64 sq,.slice pu es.length cu] 82)=wa:=⟨_,rfl⟩
       have hba:Below wd.heap.size wd wa:=by rw [← hwa];exact (Below.refl _ _).alloc (Nat.le_refl _) _
       have HSA:Hid (SrcX batC (EvS w.heap.size wa) wa (.slice (some ⟨wd.heap.size,0,none⟩) 1 1) [(sq,es)]):=Lib.hid (by
        have:=src_lit (S:=EvS w.heap.size wd) (w:=wd) (vs:=[.int .i64 sq,.slice pu es.length cu]) (d:=(sq,es)) 82 (bat_on.2 ⟨_,rfl,HU3.out⟩)
        rw [show (wd.alloc (.cells [Value.int .i64 sq,.slice pu es.length cu].toArray 82))=wa from hwa] at this
        obtain ⟨p',c',raw,h1,h2,h3,h4,h5⟩:=this
        exact ⟨p',c',raw,h1,h2,h3,h4.keep (Kep.refl _ _) fun b hb h=>evS_keep (kep_below (fun _=>True) hba) h trivial,h5⟩)
       have HOA:=Lib.hid (HO3.out.below hba)
       have HBA:=Lib.hid (HB3.out.trans (hba.mono HB3.out.size))
       have HVA:=Lib.hid (BIn.below HV3.out (hba.mono HB3.out.size))
       have HWA:=Lib.hid hwa
       have hmb:m≤1000000000000:=by omega
       have HHL:Hid (bs.length=m):=Lib.hid HL.out.2
       clear c1 c2 HK1 q1 q2 e1 e2 e3 t7
       clear hwd hbd hwa hba hx3 HO2 HB2 HU2 HV2 HX2 HO3 HB3 HU3 HV3
       go_wp2_with (first | (rw [HWA.out]) | (at_builtin;go_loud (refine wpList_append_x batE rfl _ _ rfl w.heap.size _ bs rfl HOA.out (fun b _ hb=>evB_apt hb.2) _ [(sq,es)] rfl HSA.out (by have:=HHL.out;unfold maxLen;simp;omega) (by have:=HHL.out;simp;omega) (by have:=HBA.out.size;exact this) ?_;intro v' w4 ho4 hb4 hk4;obtain ⟨q4,c4,rfl,_⟩:=(OwnX.any ho4).shape;have HB4:=Lib.hid (HBA.out.trans hb4);have HV4:=Lib.hid (BIn.below HVA.out hb4);have HO4:Hid (BatsOwn w.heap.size w4 (.slice q4 (bs++[(sq,es)]).length c4) (bs++[(sq,es)])):=Lib.hid (OwnX.weak (T:=EvS w.heap.size w4) ho4 fun b _ hb=>evS_keep hk4 hb (HOA.out.own_ne hb.2));rw [show (bs++[(sq,es)]).length=m+1 by rw [List.length_append,HHL.out];rfl] at HO4 ⊢;clear ho4 hb4 hk4)))
       have hl2:=HG3.out.2
       rw [HL.out.1] at hl2
       go_roundw
       case rel=>exact ⟨bs++[(sq,es)],LR,pr,LR.length,cr,q4,m+1,c4,rfl,rfl,by omega,Lib.hid ⟨rfl,by rw [List.length_append,HHL.out];rfl⟩,Lib.hid HG3.out.1,HO4,HV4,HB4⟩
       case measure=>simp [lenNR];omega
      ·have HS:=Lib.hid (G2.out (by first | rfl | trivial) (by rw [hw];exact hbh))
       have t7:(sq != sl+(el.length:Int))=true:=by rw [bne_iff_ne];exact hbh
       have HALL:=Lib.hid HG.out.2.1
       clear G2 G3 hbh hw HG HU2 HV2
       go_wp2_with (rw [HW2.out])
       go_quiet (fail)
       have HBQ:=Lib.hid (MM.below_drewN HB2.out)
       have HOQ:=Lib.hid (fun k=>HO2.out.below (MM.below_drewN (Below.refl w2.heap.size w2) k))
       clear HB2 HO2 c1 c2
       go_wp2_with fail
       go_ret3
       have hs:=HS.out
       rw [HE0.out] at hs
       exact ⟨bs,NB - n,150,_,hs,HALL.out,HMB.out,rfl,HOQ.out _,HBQ.out _⟩
     ·obtain rfl:m=0:=by omega
      have t5:decide (((0:Nat):Int)>0)=false:=rfl
      have t6:decide ((0:Int)>0)=false:=rfl
      have hbs:bs=[]:=List.eq_nil_of_length_eq_zero HL.out.2
      have HG3:=Lib.hid (G3.out (by first | rfl | trivial) (by rw [hbs];rfl))
      clear G2 G3 hbs HG hm
      go_wp2_with (rw [HW2.out])
      go_quiet (fail)
      obtain ⟨wd,hwd⟩:∃ wd,w2.drewN nq=wd:=⟨_,rfl⟩
      have hbd:Below w2.heap.size w2 wd:=by rw [← hwd];exact MM.below_drewN (Below.refl _ _) _
      have HO3:=Lib.hid (HO2.out.below hbd)
      have HB3:=Lib.hid (HB2.out.trans (hbd.mono HB2.out.size))
      have HU3:Hid (ROn evC (EvS w.heap.size wd) wd (.slice pu es.length cu) es):=Lib.hid (ROn.keep HU2.out (kep_below _ hbd) fun b _ h=>evS_keep (kep_below (fun _=>True) hbd) h trivial)
      have HV3:=Lib.hid (BIn.below HV2.out (hbd.mono HB2.out.size))
      have hx3:=HX2.out.below hbd HX2.out.lt
      have y0:=hx3.c0
      have y1:=hx3.c1
      have hsx:=hx3.lt
      rw [hwd]
      obtain ⟨wa,hwa⟩:∃ wa,wd.alloc (.cells #[.int .i64 sq,.slice pu es.length cu] 82)=wa:=⟨_,rfl⟩
      have hba:Below wd.heap.size wd wa:=by rw [← hwa];exact (Below.refl _ _).alloc (Nat.le_refl _) _
      have HSA:Hid (SrcX batC (EvS w.heap.size wa) wa (.slice (some ⟨wd.heap.size,0,none⟩) 1 1) [(sq,es)]):=Lib.hid (by
       have:=src_lit (S:=EvS w.heap.size wd) (w:=wd) (vs:=[.int .i64 sq,.slice pu es.length cu]) (d:=(sq,es)) 82 (bat_on.2 ⟨_,rfl,HU3.out⟩)
       rw [show (wd.alloc (.cells [Value.int .i64 sq,.slice pu es.length cu].toArray 82))=wa from hwa] at this
       obtain ⟨p',c',raw,h1,h2,h3,h4,h5⟩:=this
       exact ⟨p',c',raw,h1,h2,h3,h4.keep (Kep.refl _ _) fun b hb h=>evS_keep (kep_below (fun _=>True) hba) h trivial,h5⟩)
      have HOA:=Lib.hid (HO3.out.below hba)
      have HBA:=Lib.hid (HB3.out.trans (hba.mono HB3.out.size))
      have HVA:=Lib.hid (BIn.below HV3.out (hba.mono HB3.out.size))
      have HWA:=Lib.hid hwa
      have HHL:Hid (bs.length=0):=Lib.hid HL.out.2
      clear hwd hbd hwa hba hx3 HO2 HB2 HU2 HV2 HX2 HO3 HB3 HU3 HV3
      go_wp2_with (first | (rw [HWA.out]) | (at_builtin;go_loud (refine wpList_append_x batE rfl _ _ rfl w.heap.size _ bs rfl HOA.out (fun b _ hb=>evB_apt hb.2) _ [(sq,es)] rfl HSA.out (by have:=HHL.out;unfold maxLen;simp;omega) (by have:=HHL.out;simp;omega) (by have:=HBA.out.size;exact this) ?_;intro v' w4 ho4 hb4 hk4;obtain ⟨q4,c4,rfl,_⟩:=(OwnX.any ho4).shape;have HB4:=Lib.hid (HBA.out.trans hb4);have HV4:=Lib.hid (BIn.below HVA.out hb4);have HO4:Hid (BatsOwn w.heap.size w4 (.slice q4 (bs++[(sq,es)]).length c4) (bs++[(sq,es)])):=Lib.hid (OwnX.weak (T:=EvS w.heap.size w4) ho4 fun b _ hb=>evS_keep hk4 hb (HOA.out.own_ne hb.2));rw [show (bs++[(sq,es)]).length=0+1 by rw [List.length_append,HHL.out];rfl] at HO4 ⊢;clear ho4 hb4 hk4)))
      have hl2:=HG3.out.2
      rw [HL.out.1] at hl2
      go_roundw
      case rel=>exact ⟨bs++[(sq,es)],LR,pr,LR.length,cr,q4,0+1,c4,rfl,rfl,by omega,Lib.hid ⟨rfl,by rw [List.length_append,HHL.out];rfl⟩,Lib.hid HG3.out.1,HO4,HV4,HB4⟩
      case measure=>simp [lenNR];omega
    ·have t4:(fe != 0)=true:=by rw [bne_iff_ne];exact hf
     have hfi:=FF2.out hf
     rw [hfi] at G1
     have HS:=Lib.hid (G1.out (by decide))
     have HALL:=Lib.hid HG.out.2.1
     clear G1 G2 G3 G4 FF2 FF3 HU2 HV2 HX2 HG y0 y1 hfi
     go_wp2_with (rw [HW2.out])
     go_quiet (fail)
     have HBQ:=Lib.hid (MM.below_drewN HB2.out)
     have HOQ:=Lib.hid (fun k=>HO2.out.below (MM.below_drewN (Below.refl w2.heap.size w2) k))
     clear HB2 HO2
     go_wp2_with fail
     go_ret3
     have hs:=HS.out
     rw [HE0.out] at hs
     exact ⟨bs,NB - n,150,_,hs,HALL.out,HMB.out,rfl,HOQ.out _,HBQ.out _⟩
   ·have t3:(er != 0)=true:=by rw [bne_iff_ne];exact he
    have hfi:=F1.out he
    rw [hfi] at G1
    have HS:=Lib.hid (G1.out he)
    have HALL:=Lib.hid HG.out.2.1
    clear G1 G2 G3 G4 F1 F2 F3 HG hfi hp hv hb1 HF HO HI HB HV1
    go_wp2_with fail
    go_ret3
    have hs:=HS.out
    rw [HE0.out] at hs
    exact ⟨bs,NB - n,er,_,hs,HALL.out,HMB.out,rfl,HO1.out,HB1.out⟩
  ·obtain rfl:n=0:=by omega
   have t1:decide ((0:Int)>0)=false:=rfl
   have hnil:l=[]:=List.eq_nil_of_length_eq_zero HL.out.1
   subst hnil
   have HS:=Lib.hid (going_end HG.out)
   have HALL:=Lib.hid HG.out.2.1
   have HMB:Hid (bs.length≤b.length):=Lib.hid (by rw [HNB.out,HL.out.2];omega)
   clear HG HI hn
   go_wp2_with fail
   go_ret3
   have hs:=HS.out
   rw [HNB.out] at hs
   exact ⟨bs,NB,0,_,hs,HALL.out,HMB.out,rfl,HO.out,HB.out⟩
end Go.Proofs.YtdfibahafilklaaGreatDoor.WL
