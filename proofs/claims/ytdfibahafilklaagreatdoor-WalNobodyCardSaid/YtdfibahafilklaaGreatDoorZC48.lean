import Derived.Test.YtdfibahafilklaaGreatDoorZC47
set_option maxRecDepth 100000
set_option maxHeartbeats 8000000
set_option linter.unusedVariables false
set_option linter.unusedSimpArgs false
namespace Go.Proofs.YtdfibahafilklaaGreatDoor.WL
open Go Go.RowKit MM EM WM BR
open FM (getR restR)
open EV (batC bat_on evC ev_at EvS EvB)
def lenN:Value→Nat | .slice _ n _=>n | _=>0
theorem scan_any (v:Value) (b:List UInt8) (w:World) (hr:BRow w v b) (hbl:b.length≤1000000000000):Calls Tryz.prog 13 #[v] w (ScanLeft b w):=by
 have hmx:Tryz.prog.follows .mixedOrders=true:=by kernel_rfl
 obtain ⟨p0,c0,rfl,hlc,hcm⟩:=hr.shape
 unfold maxLen at hcm
 obtain ⟨NB,hNB⟩:∃ n,b.length=n:=⟨_,rfl⟩
 rw [hNB] at hr hlc hbl ⊢
 have HV:=Lib.hid (show BIn w.heap.size w (.slice p0 NB c0) b from hr)
 have HG0:=Lib.hid (going_start b)
 have HO0:=Lib.hid (BatsOwn.nil_ w.heap.size w)
 have HB0:=Lib.hid (Below.refl w.heap.size w)
 have HNB:=Lib.hid hNB
 clear hr hNB
 go_enter Tryz.func13,Tryz.ntmps13
 go_wp2_with fail
 go_loopw [5,6] (fun tv lv wr=>∃ (bs:List Bat) (l:List UInt8) (p:Option Addr) (n c:Nat) (q:Option Addr) (m d:Nat),tv=.slice q m d∧lv=.slice p n c∧n+m≤NB∧Hid (l.length=n∧bs.length=m)∧Hid (Going b l bs)∧Hid (BatsOwn w.heap.size wr (.slice q m d) bs)∧Hid (BIn w.heap.size wr (.slice p n c) l)∧Hid (Below w.heap.size w wr)) (fun _ lv _=>lenN lv)
 case atStart=>exact ⟨[],b,p0,NB,c0,none,0,0,rfl,rfl,by omega,Lib.hid ⟨HNB.out,rfl⟩,HG0,HO0,HV,HB0⟩
 case round =>
  obtain ⟨bs,l,p,n,c,q,m,d,rfl,rfl,hnm,HL,HG,HO,HI,HB⟩:=hrel
  clear HG0 HO0 HB0 HV
  have hsw:=HB.out.size
  by_cases hn:0<n
  ·have t1:decide ((n:Int)>0)=true:=by rw [decide_eq_true_eq];omega
   have t2:decide (0<n)=true:=decide_eq_true hn
   have hne:l≠[]:=fun e=>by have:=HL.out.1;rw [e] at this;simp at this;omega
   obtain ⟨g1,g2,g3,g4⟩:=going_step HG.out hne
   have HF:=Lib.hid (first_any w.heap.size (.slice p n c) l wr HI.out hsw)
   have hln:(leftR l)=if (firstR l).2=0 then restR l else []:=rfl
   unfold FirstLeft at HF
   obtain ⟨⟨⟨sq,es⟩,er⟩,hfi⟩:∃ f,firstR l=f:=⟨_,rfl⟩
   obtain ⟨LR,hLR⟩:∃ L,leftR l=L:=⟨_,rfl⟩
   rw [hfi] at g1 g2 g3 g4 hln HF
   rw [hLR] at HF hln
   dsimp only at g1 g2 g3 g4 hln HF
   have G1:=Lib.hid g1
   have G2:=Lib.hid g2
   have G3:=Lib.hid g3
   have G4:=Lib.hid g4
   have HLN:=Lib.hid hln
   have hq1:wrap64 ((NB:Int) - (n:Int))=((NB - n:Nat):Int):=by unfold wrap64;omega
   have hq2:((NB:Int) - (n:Int))=((NB - n:Nat):Int):=by omega
   have HE0:Hid (b.length - l.length=NB - n):=Lib.hid (by rw [HNB.out,HL.out.1])
   have HMB:Hid (bs.length≤b.length):=Lib.hid (by rw [HNB.out,HL.out.2];omega)
   have hw2:wrap64 ((NB - n:Nat):Int)=((NB - n:Nat):Int):=by unfold wrap64;omega
   clear g1 g2 g3 g4 hln hfi hLR hne
   go_wp2_with fail
   refine HF.out.mono ?_
   rintro e w1 ⟨u,vr,rfl,hu,hv,hb1⟩
   obtain ⟨pu,cu,rfl,_⟩:=hu.shape
   obtain ⟨pr,cr,rfl,_⟩:=hv.shape
   obtain ⟨w2,hw2'⟩:∃ w2,w1.alloc (.cells #[.int .i64 sq,.slice pu es.length cu] 82)=w2:=⟨_,rfl⟩
   have hb2:Below w1.heap.size w1 w2:=by rw [← hw2'];exact (Below.refl _ _).alloc (Nat.le_refl _) _
   have hx2:Two w2 w1.heap.size 82 (.int .i64 sq) (.slice pu es.length cu):=by rw [← hw2'];exact two_new w1 _ _ _
   have HB2:=Lib.hid (HB.out.trans ((hb1.mono hsw).trans (hb2.mono (Nat.le_trans hsw hb1.size))))
   have HO2:=Lib.hid ((HO.out.below hb1).below hb2)
   have HU2:Hid (ROn evC (EvS w.heap.size w2) w2 (.slice pu es.length cu) es):=Lib.hid (by
    have h1:=ROn.keep hu (kep_below _ hb2) (T:=EvS wr.heap.size w2) fun b _ h=>evS_keep (kep_below (fun _=>True) hb2) h trivial
    exact h1.weak fun b _ h=>⟨Nat.le_trans hsw h.1,h.2⟩)
   have HV2:Hid (BIn w.heap.size w2 (.slice pr LR.length cr) LR):=Lib.hid (BIn.below hv (hb2.mono (Nat.le_trans hsw hb1.size)))
   have HX2:=Lib.hid hx2
   have HW2:=Lib.hid hw2'
   have y0:=hx2.c0
   have y1:=hx2.c1
   clear hu hv hb1 hb2 hx2 hw2' HF HO HI HB hsw
   by_cases he:er=0
   ·subst he
    have HSC:Hid (BatOk (sq,es)):=Lib.hid (G4.out (by first | rfl | trivial))
    clear G1 G4
    by_cases hbh:sq=behindW bs sq
    ·have HG3:=Lib.hid (G3.out (by first | rfl | trivial) hbh)
     have t3:(sq != behindW bs sq)=false:=by rw [bne_eq_false_iff_eq];exact hbh
     have hlr:restR l=LR:=by have:=HLN.out;rw [if_pos (by first | rfl | trivial)] at this;exact this.symm
     rw [hlr] at HG3
     have HBH:=Lib.hid (fun W (h:RAny batC W (.slice q m d) bs)=>behind_any (.slice q m d) bs sq W h HG.out.2.1)
     clear G2 G3 hlr HLN hbh HG
     go_wp2_with (rw [HW2.out])
     refine RG.begin_ [(0,true),(1,true),(2,true),(3,true),(4,true),(5,true),(6,true),(7,true),(8,false),(9,true),(10,true)] hmx (by kernel_rfl) rfl (by kernel_rfl) (fun _ _ d _ _ h=>by cases d<;>exact h) ?_
     simp only [RG.ordered,List.map_cons,List.map_nil,List.getElem?_toArray,List.getElem?_cons_succ,List.getElem?_cons_zero]
     obtain ⟨wd,hwd⟩:∃ wd,w2.drew=wd:=⟨_,rfl⟩
     have hbd:Below w2.heap.size w2 wd:=by rw [← hwd];exact (Below.refl _ _).drew
     have HOd:=Lib.hid (HO2.out.below hbd)
     have HBd:=Lib.hid (HB2.out.trans (hbd.mono HB2.out.size))
     have HUd:Hid (ROn evC (EvS w.heap.size wd) wd (.slice pu es.length cu) es):=Lib.hid (ROn.keep HU2.out (kep_below _ hbd) fun b _ h=>evS_keep (kep_below (fun _=>True) hbd) h trivial)
     have HVd:=Lib.hid (BIn.below HV2.out (hbd.mono HB2.out.size))
     have hxd:=HX2.out.below hbd HX2.out.lt
     have F:=fun W (hW:RG.Grew wd W)=>(hxd.below hW hxd.lt).c0
     have HXd:=Lib.hid hxd
     rw [hwd]
     clear hwd hbd HO2 HB2 HU2 HV2 HX2 hxd y0 y1
     repeat (refine RG.take (by rfl) (by intro W hW;have f1:=F W hW;go_simp;with_reducible rfl) ?_;simp only [Act.put,List.setIfInBounds_toArray,List.set_cons_zero,List.set_cons_succ])
     refine RG.alone (by rfl) (fun K hK => ?_)
     go_simp
     refine (HBH.out wd HOd.out.any).mono ?_
     rintro e w3 ⟨rfl,hb3⟩
     go_simp
     refine hK.out _ _ hb3 ?_
     clear hK K F
     have HO3:=Lib.hid (HOd.out.below hb3)
     have HB3:=Lib.hid (HBd.out.trans (hb3.mono HBd.out.size))
     have HU3:Hid (ROn evC (EvS w.heap.size w3) w3 (.slice pu es.length cu) es):=Lib.hid (ROn.keep HUd.out (kep_below _ hb3) fun b _ h=>evS_keep (kep_below (fun _=>True) hb3) h trivial)
     have HV3:=Lib.hid (BIn.below HVd.out (hb3.mono HBd.out.size))
     have hx3:=HXd.out.below hb3 HXd.out.lt
     have y0:=hx3.c0
     have y1:=hx3.c1
     have HX3:=Lib.hid hx3
     clear hb3 hx3 HOd HBd HUd HVd HXd HBH
     repeat (refine RG.take (by rfl) (by intro W hW;go_simp;with_reducible rfl) ?_;simp only [Act.put,List.setIfInBounds_toArray,List.set_cons_zero,List.set_cons_succ])
     refine RG.done ?_
     obtain ⟨wa,hwa⟩:∃ wa,w3.alloc (.cells #[.int .i64 sq,.slice pu es.length cu] 82)=wa:=⟨_,rfl⟩
     have hba:Below w3.heap.size w3 wa:=by rw [← hwa];exact (Below.refl _ _).alloc (Nat.le_refl _) _
     have HSA:Hid (SrcX batC (EvS w.heap.size wa) wa (.slice (some ⟨w3.heap.size,0,none⟩) 1 1) [(sq,es)]):=Lib.hid (by
      have:=src_lit (S:=EvS w.heap.size w3) (w:=w3) (vs:=[.int .i64 sq,.slice pu es.length cu]) (d:=(sq,es)) 82 (bat_on.2 ⟨_,rfl,HU3.out⟩)
      rw [show (w3.alloc (.cells [Value.int .i64 sq,.slice pu es.length cu].toArray 82))=wa from hwa] at this
      obtain ⟨p',c',raw,h1,h2,h3,h4,h5⟩:=this
      exact ⟨p',c',raw,h1,h2,h3,h4.keep (Kep.refl _ _) fun b hb h=>evS_keep (kep_below (fun _=>True) hba) h trivial,h5⟩)
     have HOA:=Lib.hid (HO3.out.below hba)
     have HBA:=Lib.hid (HB3.out.trans (hba.mono HB3.out.size))
     have HVA:=Lib.hid (BIn.below HV3.out (hba.mono HB3.out.size))
     have HWA:=Lib.hid hwa
     have hmb:m≤1000000000000:=by omega
     clear hwa hba HO3 HB3 HU3 HV3
     go_wp2_with (first | (rw [HWA.out]) | (at_builtin;go_loud (refine wpList_append_x batE rfl _ _ rfl w.heap.size _ bs rfl HOA.out (fun b _ hb=>evB_apt hb.2) _ [(sq,es)] rfl HSA.out (by have:=HL.out.2;unfold maxLen;simp;omega) (by have:=HL.out.2;simp;omega) (by have:=HBA.out.size;exact this) ?_;intro v' w4 ho4 hb4 hk4;obtain ⟨q4,c4,rfl,_⟩:=(OwnX.any ho4).shape;have HB4:=Lib.hid (HBA.out.trans hb4);have HV4:=Lib.hid (BIn.below HVA.out hb4);have HO4:Hid (BatsOwn w.heap.size w4 (.slice q4 (bs++[(sq,es)]).length c4) (bs++[(sq,es)])):=Lib.hid (OwnX.weak (T:=EvS w.heap.size w4) ho4 fun b _ hb=>evS_keep hk4 hb (HOA.out.own_ne hb.2));rw [show (bs++[(sq,es)]).length=m+1 by rw [List.length_append,HL.out.2];rfl] at HO4 ⊢;clear ho4 hb4 hk4)))
     have hl2:=HG3.out.2
     rw [HL.out.1] at hl2
     go_roundw
     case rel=>exact ⟨bs++[(sq,es)],LR,pr,LR.length,cr,q4,m+1,c4,rfl,rfl,by omega,Lib.hid ⟨rfl,by rw [List.length_append,HL.out.2];rfl⟩,Lib.hid HG3.out.1,HO4,HV4,HB4⟩
     case measure=>simp [lenN];omega
    ·have HS:=Lib.hid (G2.out (by first | rfl | trivial) hbh)
     have t3:(sq != behindW bs sq)=true:=by rw [bne_iff_ne];exact hbh
     have HBH:=Lib.hid (fun W (h:RAny batC W (.slice q m d) bs)=>behind_any (.slice q m d) bs sq W h HG.out.2.1)
     have HALL:=Lib.hid HG.out.2.1
     clear G2 G3 HLN hbh HG
     go_wp2_with (rw [HW2.out])
     refine RG.begin_ [(0,true),(1,true),(2,true),(3,true),(4,true),(5,true),(6,true),(7,true),(8,false),(9,true),(10,true)] hmx (by kernel_rfl) rfl (by kernel_rfl) (fun _ _ d _ _ h=>by cases d<;>exact h) ?_
     simp only [RG.ordered,List.map_cons,List.map_nil,List.getElem?_toArray,List.getElem?_cons_succ,List.getElem?_cons_zero]
     obtain ⟨wd,hwd⟩:∃ wd,w2.drew=wd:=⟨_,rfl⟩
     have hbd:Below w2.heap.size w2 wd:=by rw [← hwd];exact (Below.refl _ _).drew
     have HOd:=Lib.hid (HO2.out.below hbd)
     have HBd:=Lib.hid (HB2.out.trans (hbd.mono HB2.out.size))
     have hxd:=HX2.out.below hbd HX2.out.lt
     have F:=fun W (hW:RG.Grew wd W)=>(hxd.below hW hxd.lt).c0
     rw [hwd]
     clear hwd hbd HO2 HB2 HU2 HV2 HX2 hxd y0 y1
     repeat (refine RG.take (by rfl) (by intro W hW;have f1:=F W hW;go_simp;with_reducible rfl) ?_;simp only [Act.put,List.setIfInBounds_toArray,List.set_cons_zero,List.set_cons_succ])
     refine RG.alone (by rfl) (fun K hK => ?_)
     go_simp
     refine (HBH.out wd HOd.out.any).mono ?_
     rintro e w3 ⟨rfl,hb3⟩
     go_simp
     refine hK.out _ _ hb3 ?_
     clear hK K F
     have HO3:=Lib.hid (HOd.out.below hb3)
     have HB3:=Lib.hid (HBd.out.trans (hb3.mono HBd.out.size))
     clear hb3 HOd HBd HBH
     repeat (refine RG.take (by rfl) (by intro W hW;go_simp;with_reducible rfl) ?_;simp only [Act.put,List.setIfInBounds_toArray,List.set_cons_zero,List.set_cons_succ])
     refine RG.done ?_
     have t4:((150:Int) != 0)=true:=rfl
     go_wp2_with fail
     go_ret3
     have hs:=HS.out
     rw [HE0.out] at hs
     exact ⟨bs,NB - n,150,_,hs,HALL.out,HMB.out,rfl,HO3.out,HB3.out⟩
   ·have t3:(er != 0)=true:=by rw [bne_iff_ne];exact he
    have t4:(er == 0)=false:=by rw [beq_eq_false_iff_ne];exact he
    have HS:=Lib.hid (G1.out he)
    have HALL:=Lib.hid HG.out.2.1
    clear G1 G2 G3 G4 HLN HU2 HV2 HX2 HG y0 y1
    go_wp2_with (rw [HW2.out])
    go_quiet (fail)
    have HBQ:=Lib.hid (MM.below_drewN HB2.out)
    have HOQ:=Lib.hid (fun k=>HO2.out.below (MM.below_drewN (Below.refl w2.heap.size w2) k))
    clear HB2 HO2
    go_wp2_with fail
    go_ret3
    have hs:=HS.out
    rw [HE0.out] at hs
    exact ⟨bs,NB - n,er,_,hs,HALL.out,HMB.out,rfl,HOQ.out _,HBQ.out _⟩
  ·obtain rfl:n=0:=by omega
   have t1:decide ((0:Int)>0)=false:=rfl
   have hnil:l=[]:=List.eq_nil_of_length_eq_zero HL.out.1
   subst hnil
   have HS:=Lib.hid (going_end HG.out)
   have HALL:=Lib.hid HG.out.2.1
   have HMB:Hid (bs.length≤b.length):=Lib.hid (by rw [HNB.out,HL.out.2];omega)
   clear HG HI hn
   go_wp2_with fail
   go_ret3
   have hs:=HS.out
   rw [HNB.out] at hs
   exact ⟨bs,NB,0,_,hs,HALL.out,HMB.out,rfl,HO.out,HB.out⟩
end Go.Proofs.YtdfibahafilklaaGreatDoor.WL
