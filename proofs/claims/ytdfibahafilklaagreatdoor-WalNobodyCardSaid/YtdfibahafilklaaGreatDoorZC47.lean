import Derived.Test.YtdfibahafilklaaGreatDoorZC40
import Derived.Test.YtdfibahafilklaaGreatDoorZC46
import Derived.Test.YtdfibahafilklaaGreatDoorZC12
set_option maxRecDepth 100000
set_option maxHeartbeats 8000000
set_option linter.unusedVariables false
set_option linter.unusedSimpArgs false
namespace Go.Proofs.YtdfibahafilklaaGreatDoor.WL
open Go Go.RowKit MM EM WM BR
open FM (getR restR frameL getR_err getR_back getR_put restR_ok restR_err frameL_ne)
open EV (batC bat_on evC ev_at EvS EvB decR decR_some decR_none cdec_new DecNew infoBat2)
def BatOk (b:Bat):Prop:=0≤b.1∧b.1≤1099511627776∧b.2.length≤64
theorem behind_any (v:Value) (bs:List Bat) (z:Int) (w:World) (hr:RAny batC w v bs) (hb:∀ b∈bs,BatOk b):Calls Tryz.prog 47 #[v,.int .i64 z] w fun e w'=>e=.returned (.int .i64 (behindW bs z))∧Below w.heap.size w w':=by
 obtain ⟨p,cap,rfl,hlc,hcm,_⟩:=hr.shape
 by_cases h0:bs=[]
 ·subst h0
  have t1:decide ((0:Int)=0)=true:=rfl
  go_enter Tryz.func47,Tryz.ntmps47
  go_wp2_with fail
  go_ret
  exact ⟨rfl,Below.refl _ _⟩
 ·have hl:0<bs.length:=List.length_pos_iff.2 h0
  have hk:bs.length - 1<bs.length:=by omega
  unfold maxLen at hcm
  have t1:(((bs.length:Nat):Int) == 0)=false:=by rw [beq_eq_false_iff_ne];omega
  have e1:wrap64 ((bs.length:Int) - 1)=((bs.length - 1:Nat):Int):=by unfold wrap64;omega
  have e2:((bs.length:Int) - 1)=((bs.length - 1:Nat):Int):=by omega
  obtain ⟨b,off,ev,rfl,hbl,_,c1,c2,hf⟩:=bat_at hr hk
  have hw:behindW bs z=bs[bs.length - 1].1+(bs[bs.length - 1].2.length:Int):=by
   unfold behindW
   rw [List.getLast?_eq_getElem?,List.getElem?_eq_getElem hk]
  have hok:=hb _ (List.getElem_mem hk)
  obtain ⟨⟨sq,es⟩,hd⟩:∃ d,bs[bs.length - 1]=d:=⟨_,rfl⟩
  rw [hd] at c1 hf hw hok
  obtain ⟨o1,o2,o3⟩:=hok
  change ROn evC _ w ev es at hf
  change w.cell? ⟨b,off+(bs.length - 1)*2,none⟩=some (.int .i64 sq) at c1
  dsimp only at hw o1 o2 o3
  obtain ⟨pe,ce,rfl,hec,hem,_⟩:=hf.shape
  have e3:wrap64 (sq+(es.length:Int))=sq+(es.length:Int):=by unfold wrap64;omega
  have q1:decide (bs.length - 1<bs.length)=true:=decide_eq_true hk
  have q2:((bs.length - 1:Nat):Int)<(bs.length:Int):=by omega
  rw [hw]
  obtain ⟨w1,hw1⟩:∃ w1,w.alloc (.cells #[.int .i64 sq,.slice pe es.length ce] 82)=w1:=⟨_,rfl⟩
  have hb1:Below w.heap.size w w1:=by rw [← hw1];exact (Below.refl _ _).alloc (Nat.le_refl _) _
  have hx1:Two w1 w.heap.size 82 (.int .i64 sq) (.slice pe es.length ce):=by rw [← hw1];exact two_new w _ _ _
  have y0:=hx1.c0
  have y1:=hx1.c1
  have HB1:=Lib.hid hb1
  have HW1:=Lib.hid hw1
  generalize hK:bs.length - 1=K at *
  clear hd hf hw hw1 hb1 hx1 hb hr h0 hl o1 o2 o3
  go_enter Tryz.func47,Tryz.ntmps47
  go_wp2_with (rw [HW1.out])
  go_ret
  exact ⟨congrArg (fun z=>Ending.returned (.int .i64 z)) e3,HB1.out⟩
def firstR (l:List UInt8):Bat×Int:=if (getR l).2.2≠0 then ((0,[]),(getR l).2.2) else match decB (getR l).1 with
 | none=>((0,[]),150)
 | some c=>(c,0)
def leftR (l:List UInt8):List UInt8:=if (firstR l).2=0 then restR l else []
def FirstLeft (B:Nat) (l:List UInt8) (w:World) (e:Ending) (w':World):Prop :=
 ∃ u vr,e=.returned (.tuple #[.agg #[.int .i64 (firstR l).1.1,u],vr,.int .i64 (firstR l).2])∧ROn evC (EvS w.heap.size w') w' u (firstR l).1.2∧BIn B w' vr (leftR l)∧Below w.heap.size w w'
theorem first_any (B:Nat) (v:Value) (l:List UInt8) (w:World) (hr:BIn B w v l) (hB:B≤w.heap.size):Calls Tryz.prog 46 #[v] w (FirstLeft B l w):=by
 obtain ⟨p0,c0,rfl,_⟩:=hr.shape
 obtain ⟨R,hR⟩:∃ R,w.heap.size=R:=⟨_,rfl⟩
 obtain ⟨wa,hwa⟩:∃ wa,w.alloc (.cells #[.int .i64 0,.slice none 0 0] 82)=wa:=⟨_,rfl⟩
 have hba:Below R w wa:=by rw [← hwa,← hR];exact (Below.refl _ _).alloc (Nat.le_refl _) _
 have hsa:wa.heap.size=R+1:=by rw [← hwa,← hR];simp
 have ta:Two wa R 82 (.int .i64 0) (.slice none 0 0):=by rw [← hwa,← hR];exact two_new w _ _ _
 have HG:=Lib.hid (FG.get_new B (.slice p0 l.length c0) l wa (hr.below (hba.mono (hR▸hB))) (by omega))
 have HD:=Lib.hid (fun v p W h=>cdec_new v p W h)
 have HFI:Hid (firstR l=if (getR l).2.2≠0 then ((0,[]),(getR l).2.2) else match decB (getR l).1 with
  | none=>((0,[]),150)
  | some c=>(c,0)):=Lib.hid rfl
 have HRS:Hid (restR l=if (getR l).2.2=0 then l.drop (getR l).2.1 else []):=Lib.hid rfl
 obtain ⟨⟨x,k,er⟩,hg⟩:∃ g,getR l=g:=⟨_,rfl⟩
 obtain ⟨rs,hrs⟩:∃ r,restR l=r:=⟨_,rfl⟩
 obtain ⟨fi,hfi⟩:∃ f,firstR l=f:=⟨_,rfl⟩
 have HLR:Hid ((if (firstR l).2=0 then restR l else [])=leftR l):=Lib.hid rfl
 obtain ⟨LR,hLR⟩:∃ L,leftR l=L:=⟨_,rfl⟩
 unfold FirstLeft
 rw [hR]
 rw [hLR,hfi,hrs] at HLR
 rw [hg,hrs] at HG
 rw [hg,hfi] at HFI
 rw [hfi,hLR]
 dsimp only at HG HFI
 have HBA:=Lib.hid hba
 have HTA:=Lib.hid ta
 have HWA:=Lib.hid hwa
 clear hr hba ta hwa hg hrs hfi HRS hLR
 go_enter Tryz.func46,Tryz.ntmps46
 go_wp2_with fail
 rw [HWA.out]
 refine HG.out.mono ?_
 rintro e w1 ⟨vp,vr,rfl,hp,hv,hb1⟩
 have T1:=Lib.hid (HTA.out.below hb1 (by omega))
 have B1:=Lib.hid (HBA.out.trans (hb1.mono (by omega)))
 have HV:=Lib.hid hv
 have HP:=Lib.hid hp.brow
 have hs1:=hb1.size
 obtain ⟨a0,a1,a2,a3,a4,a5⟩:=T1.out.all (.int .i64 0)
 have X1:=Lib.hid (T1.out.s01 (.int .i64 0) (.slice none 0 0))
 have k1:Kep (fun b=>b≠R) w1 ((w1.setCell ⟨R,0,none⟩ (.int .i64 0)).setCell ⟨R,1,none⟩ (.slice none 0 0)):=kep_set01 _ _
 have K1:=Lib.hid k1
 clear hp hv hb1 HG HTA HBA HWA k1
 by_cases he:er=0
 ·subst he
  have t1:((0:Int) != 0)=false:=rfl
  obtain ⟨pv,cv,rfl,_⟩:=HP.out.shape
  have HD1:=Lib.hid (HD.out _ x w1 HP.out)
  clear HD X1 K1 a4 a5
  go_wp2_with fail
  refine HD1.out.mono ?_
  rintro e w2 ⟨u,rfl,hu,hb2⟩
  have T2:=Lib.hid (T1.out.below hb2 T1.out.lt)
  have B2:=Lib.hid (B1.out.trans (hb2.mono (by omega)))
  have HV2:=Lib.hid (BIn.below HV.out (hb2.mono (show B≤w1.heap.size by omega)))
  have HU:=Lib.hid hu
  have hs2:=hb2.size
  clear hu hb2 HD1 T1 B1 HV a0 a1 a2 a3
  cases hd:decB x with
  | none =>
    rw [decR_none hd] at HU ⊢
    have hfi:=HFI.out
    rw [if_neg (by simp),hd] at hfi
    dsimp only at hfi HU ⊢
    obtain ⟨pu,cu,hu0,_⟩:=HU.out.shape
    have hu0:u=.slice pu 0 cu:=hu0
    subst hu0
    obtain ⟨w3,hw3⟩:∃ w3,w2.alloc (.cells #[.int .i64 0,.slice pu 0 cu] 82)=w3:=⟨_,rfl⟩
    have hb3:Below w2.heap.size w2 w3:=by rw [← hw3];exact (Below.refl _ _).alloc (Nat.le_refl _) _
    have T3:=T2.out.below hb3 T2.out.lt
    obtain ⟨a0,a1,a2,a3,a4,a5⟩:=T3.all (.int .i64 0)
    have X3:=Lib.hid (T3.s01 (.int .i64 0) (.slice none 0 0))
    have hk3:Kep (fun b=>b≠R) w3 ((w3.setCell ⟨R,0,none⟩ (.int .i64 0)).setCell ⟨R,1,none⟩ (.slice none 0 0)):=kep_set01 _ _
    have HQ:Hid (Below R w ((w3.setCell ⟨R,0,none⟩ (.int .i64 0)).setCell ⟨R,1,none⟩ (.slice none 0 0))):=Lib.hid (B2.out.trans ((hb3.mono (by omega)).trans (hk3.below (by have:=hb3.size;omega) fun k hk=>by omega)))
    have HW3:=Lib.hid hw3
    subst hfi
    have t2:((100:Int) != 0)=true:=rfl
    clear hk3 hb3 hw3 T3 HFI
    go_wp2_with (rw [HW3.out])
    refine bodyPost_ret (results_box3 (p:=2) (u:=3) (v:=4) rfl Tryz.underlying82 rfl infoBat2 _ _ R _ _ rfl X3.out) rfl ?_
    have e:=HLR.out
    rw [if_neg (by decide)] at e
    subst e
    exact ⟨_,_,rfl,ROn.nil_ _ _,BIn.nil_ _ _,HQ.out⟩
  | some c =>
    rw [decR_some hd] at HU ⊢
    have hfi:=HFI.out
    rw [if_neg (by simp),hd] at hfi
    obtain ⟨sq,es⟩:=c
    dsimp only at hfi HU ⊢
    obtain ⟨pu,cu,rfl,_⟩:=HU.out.shape
    obtain ⟨w3,hw3⟩:∃ w3,w2.alloc (.cells #[.int .i64 sq,.slice pu es.length cu] 82)=w3:=⟨_,rfl⟩
    have hb3:Below w2.heap.size w2 w3:=by rw [← hw3];exact (Below.refl _ _).alloc (Nat.le_refl _) _
    have hx3:Two w3 w2.heap.size 82 (.int .i64 sq) (.slice pu es.length cu):=by rw [← hw3];exact two_new w2 _ _ _
    have y0:=hx3.c0
    have y1:=hx3.c1
    have T3:=T2.out.below hb3 T2.out.lt
    obtain ⟨a0,a1,a2,a3,a4,a5⟩:=T3.all (.int .i64 sq)
    have X3:=Lib.hid (T3.s01 (.int .i64 sq) (.slice pu es.length cu))
    have hk3:Kep (fun b=>b≠R) w3 ((w3.setCell ⟨R,0,none⟩ (.int .i64 sq)).setCell ⟨R,1,none⟩ (.slice pu es.length cu)):=kep_set01 _ _
    have HQ:Hid (Below R w ((w3.setCell ⟨R,0,none⟩ (.int .i64 sq)).setCell ⟨R,1,none⟩ (.slice pu es.length cu))):=Lib.hid (B2.out.trans ((hb3.mono (by omega)).trans (hk3.below (by have:=hb3.size;omega) fun k hk=>by omega)))
    have HW3:=Lib.hid hw3
    have HE:Hid (ROn evC (EvS R ((w3.setCell ⟨R,0,none⟩ (.int .i64 sq)).setCell ⟨R,1,none⟩ (.slice pu es.length cu))) ((w3.setCell ⟨R,0,none⟩ (.int .i64 sq)).setCell ⟨R,1,none⟩ (.slice pu es.length cu)) (.slice pu es.length cu) es):=Lib.hid (by
     have h1:=ROn.keep HU.out (kep_below _ hb3) (T:=EvS w1.heap.size w3) fun b _ h=>evS_keep (kep_below (fun _=>True) hb3) h trivial
     exact ROn.keep h1 (hk3.mono fun b h=>by have:=h.1;omega) fun b _ h=>⟨by have:=h.1;omega,(evS_keep hk3 h (by have:=h.1;omega)).2⟩)
    have HVQ:Hid (BIn B ((w3.setCell ⟨R,0,none⟩ (.int .i64 sq)).setCell ⟨R,1,none⟩ (.slice pu es.length cu)) vr rs):=Lib.hid (by
     have h1:=BIn.below HV2.out (hb3.mono (show B≤w2.heap.size by omega))
     exact BIn.below h1 (hk3.below (by have:=hb3.size;omega) fun k hk=>by omega))
    obtain ⟨pr,cr,rfl,_⟩:=HVQ.out.shape
    subst hfi
    have t2:((0:Int) != 0)=false:=rfl
    clear hk3 hb3 hw3 hx3 T3 HFI
    go_wp2_with (rw [HW3.out])
    refine bodyPost_ret (results_box3 (p:=2) (u:=3) (v:=4) rfl Tryz.underlying82 rfl infoBat2 _ _ R _ _ rfl X3.out) rfl ?_
    have e:=HLR.out
    rw [if_pos (by first | rfl | trivial)] at e
    subst e
    exact ⟨_,_,rfl,HE.out,HVQ.out,HQ.out⟩
 ·have t1:(er != 0)=true:=by rw [bne_iff_ne];exact he
  have hfi:=HFI.out
  rw [if_pos he] at hfi
  subst hfi
  have HQ:Hid (Below R w ((w1.setCell ⟨R,0,none⟩ (.int .i64 0)).setCell ⟨R,1,none⟩ (.slice none 0 0))):=Lib.hid (B1.out.trans (K1.out.below (by omega) fun k hk=>by omega))
  obtain ⟨pv,cv,rfl,_⟩:=HP.out.shape
  obtain ⟨pr,cr,rfl,_⟩:=HV.out.shape
  clear HFI HD HP HV K1
  go_wp2_with fail
  refine bodyPost_ret (results_box3 (p:=2) (u:=3) (v:=4) rfl Tryz.underlying82 rfl infoBat2 _ _ R _ _ rfl X1.out) rfl ?_
  have e:=HLR.out
  rw [if_neg he] at e
  subst e
  exact ⟨_,_,rfl,ROn.nil_ _ _,BIn.nil_ _ _,HQ.out⟩
def nextP (bs:List Bat):Option Int:=bs.getLast?.map fun b=>b.1+(b.2.length:Int)
theorem nextP_snoc (bs:List Bat) (c:Bat):nextP (bs++[c])=some (c.1+(c.2.length:Int)):=by unfold nextP;rw [List.getLast?_append];rfl
theorem behind_same (bs:List Bat) (c:Bat):(c.1=behindW bs c.1)↔∀ n,nextP bs=some n→c.1=n:=by
 unfold behindW nextP
 cases bs.getLast? with
 | none=>exact ⟨fun _ n h=>(by cases h),fun _=>rfl⟩
 | some b=>exact ⟨fun h n hn=>by cases hn;exact h,fun h=>h _ rfl⟩
def Going (b l:List UInt8) (bs:List Bat):Prop:=l.length≤b.length∧(∀ x∈bs,BatOk x)∧∀ cs m e,Scans (nextP bs) l cs m e→Scans none b (bs++cs) (b.length - l.length+m) e
theorem going_start (b:List UInt8):Going b b []:=⟨Nat.le_refl _,fun x h=>(by cases h),fun cs m e h=>by rw [Nat.sub_self,Nat.zero_add];exact h⟩
theorem batOk_of {c:Bat} (h:checkB c=0):BatOk c:=by
 obtain ⟨h1,h2,_,_,h5,h6⟩:=checkB_ok h
 exact ⟨by omega,by omega,h2⟩
theorem going_step {b l:List UInt8} {bs:List Bat} (h:Going b l bs) (hl:l≠[]) :
  ((firstR l).2≠0→Scans none b bs (b.length - l.length) (firstR l).2)∧((firstR l).2=0→(firstR l).1.1≠behindW bs (firstR l).1.1→Scans none b bs (b.length - l.length) 150) ∧
  ((firstR l).2=0→(firstR l).1.1=behindW bs (firstR l).1.1→Going b (restR l) (bs++[(firstR l).1])∧(restR l).length<l.length)∧((firstR l).2=0→BatOk (firstR l).1):=by
 obtain ⟨h1,h2,h3⟩:=h
 have hstop:∀ e,Scans (nextP bs) l [] 0 e→Scans none b bs (b.length - l.length) e:=fun e hs=>by
  have:=h3 [] 0 e hs
  rw [List.append_nil,Nat.add_zero] at this
  exact this
 rcases getR_err l with ⟨x,k,hg⟩ | hg | hg
 ·obtain ⟨b1,b2,b3⟩:=getR_back hg
  have hr:restR l=l.drop k:=restR_ok hg
  have he:l=frameL x++restR l:=by rw [hr,b3]
  have hlen:l.length=(frameL x).length+(restR l).length:=by rw [← List.length_append,← he]
  have hne:0<(frameL x).length:=List.length_pos_iff.2 fun e=>frameL_ne (p:=x) (r:=[]) (by rw [e];rfl)
  cases hd:decB x with
  | none =>
    have e:firstR l=((0,[]),150):=by unfold firstR;rw [hg];dsimp only;rw [if_neg (by simp),hd]
    rw [e]
    refine ⟨fun _=>hstop _ ?_,fun h=>absurd h (by decide),fun h=>absurd h (by decide),fun h=>absurd h (by decide)⟩
    rw [he]
    exact .odd b1 fun c hc=>by rw [hd] at hc;cases hc
  | some c =>
    have e:firstR l=(c,0):=by unfold firstR;rw [hg];dsimp only;rw [if_neg (by simp),hd]
    rw [e]
    have hok:=batOk_of (decB_back hd).2.1
    refine ⟨fun h=>absurd rfl h,fun _ hn=>hstop _ ?_,fun _ hn=>⟨⟨by omega,?_,fun cs m er hs => ?_⟩,by omega⟩,fun _=>hok⟩
    ·rw [he]
     refine .odd b1 fun c' hc => ?_
     rw [hd] at hc
     obtain rfl:=Option.some.inj hc
     refine Classical.byContradiction fun hcon=>hn ((behind_same bs c).2 fun n hp=>Classical.byContradiction fun hne=>hcon ⟨n,hp,hne⟩)
    ·intro y hy
     rcases List.mem_append.1 hy with hy | hy
     ·exact h2 y hy
     ·rw [List.mem_singleton.1 hy];exact hok
    ·rw [nextP_snoc] at hs
     have hm:=Scans.more (p:=nextP bs) b1 hd ((behind_same bs c).1 hn) hs
     rw [← he] at hm
     have:=h3 _ _ _ hm
     rw [List.append_assoc]
     rw [show b.length - (restR l).length+m=b.length - l.length+((frameL x).length+m) by omega]
     exact this
 ·have e:firstR l=((0,[]),41):=by unfold firstR;rw [hg];rfl
  rw [e]
  exact ⟨fun _=>hstop _ (.stop hl hg (by decide)),fun h=>absurd h (by decide),fun h=>absurd h (by decide),fun h=>absurd h (by decide)⟩
 ·have e:firstR l=((0,[]),40):=by unfold firstR;rw [hg];rfl
  rw [e]
  exact ⟨fun _=>hstop _ (.stop hl hg (by decide)),fun h=>absurd h (by decide),fun h=>absurd h (by decide),fun h=>absurd h (by decide)⟩
theorem going_end {b:List UInt8} {bs:List Bat} (h:Going b [] bs):Scans none b bs b.length 0:=by
 have:=h.2.2 [] 0 0 .none_
 rw [List.append_nil] at this
 exact this
def ScanLeft (b:List UInt8) (w:World) (e:Ending) (w':World):Prop :=
 ∃ bs k er v,Scans none b bs k er∧(∀ x∈bs,BatOk x)∧bs.length≤b.length∧e=.returned (.tuple #[v,.int .i64 (k:Int),.int .i64 er])∧BatsOwn w.heap.size w' v bs∧Below w.heap.size w w'
end Go.Proofs.YtdfibahafilklaaGreatDoor.WL
