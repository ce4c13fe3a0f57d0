import Derived.Test.YtidhgicajlaafaaGreatZD33
import Derived.Test.YtidhgicajlaafaaGreatZD37
set_option maxRecDepth 100000
set_option maxHeartbeats 8000000
set_option linter.unusedVariables false
set_option linter.unusedSimpArgs false
namespace Go.Proofs.YtidhgicajlaafaaGreat.MX
open Go Go.RowKit MM EM SM
open SG (PostD Tab)
open EV (docC evC fldC btBox btbox_below btbox_size btbox_in docsB docsL docE doc_on doc_at)
open RM (rowsE)
theorem big_app {l:List Doc} {b:Bat} (h:BigM l) (hc:checkB b=0) (hn:l.length+b.2.length≤65536):BigM (l++docsM b):=by
 refine ⟨by rw [List.length_append,docsM_len];exact hn,fun d hd => ?_⟩
 rcases List.mem_append.1 hd with hd | hd
 ·exact h.2 d hd
 ·obtain ⟨k,hk,rfl⟩:=List.getElem_of_mem hd
  rw [docsM_len] at hk
  rw [docsM_at hk]
  have h4:=(checkB_ok hc).2.2.2.1
  have h5:sizeE b.2[k]≤sizeB b.2:=by
   unfold sizeB
   exact mem_le_sum (List.mem_map.2 ⟨_,List.getElem_mem hk,rfl⟩)
  have h8:sizeE b.2[k]=16+sizeF b.2[k].2:=rfl
  have h6:=(checkB_ok hc).2.2.2.2
  have h9:=(checkB_ok hc).2.2.1 b.2[k] (List.getElem_mem hk)
  have h7:=(checkE_ok.1 h9).1
  show sizeF b.2[k].2≤65536∧0≤b.1+(k:Int)∧b.1+(k:Int)≤1099511627776∧b.2[k].2.length≤16∧checkE b.2[k]=0∧sizeE b.2[k]≤65536
  exact ⟨by omega,by omega,by omega,h7,h9,by omega⟩
def InLeft (A:Nat→Prop) (g:Nat) (l:List Doc) (b:Bat) (w:World) (e:Ending) (w':World):Prop :=
 e=.returned (.int .i64 (addM l b).2)∧Idx (Since A w.heap.size w'.heap.size) w' g (addM l b).1∧Kep (fun k=>¬ A k) w w'
theorem in_same {A:Nat→Prop} {g:Nat} {l:List Doc} {b:Bat} {w w':World} {z:Int} (h:Idx A w g l) (hz:addM l b=(l,z)) (hb:Below w.heap.size w w'):InLeft A g l b w (.returned (.int .i64 z)) w':=by
 refine ⟨by rw [hz],?_,kep_below _ hb⟩
 rw [hz]
 obtain ⟨h1,U,D,mb,X,F,dv,hi⟩:=h
 exact ⟨h1,U,D,mb,X,F,dv,hi.start.grow (Nat.le_refl _) hb⟩
theorem evM_one (d:Doc):evM [d]=[d.2]:=rfl
theorem snoc_rows (l:List Doc) (d:Doc):rowsE (evM (l++[d]))=foldP (rowsE (evM l)) (pairK l.length (termsE d.2)):=by
 rw [evM_app,evM_one,rowsE_snoc,evM_len]
 rfl
theorem add_idx (A:Nat→Prop) (g:Nat) (l:List Doc) (seq:Int) (v:Value) (es:List Ev) (w:World) (h:Idx A w g l) (hv:ROn evC (fun k=>¬ A k) w v es) :
  Calls Tryz.prog 18 #[.pointer (some ⟨g,0,none⟩),.agg #[.int .i64 seq,v]] w (InLeft A g l (seq,es) w):=by
 obtain ⟨R,hR⟩:∃ R,InLeft A g l (seq,es) w=R:=⟨_,rfl⟩
 rw [hR]
 have HR:=Lib.hid hR
 obtain ⟨p,cap,rfl,hlc,hcm,_⟩:=hv.shape
 unfold maxLen at hcm
 obtain ⟨w1,hw1⟩:∃ w1,btBox w seq (.slice p es.length cap)=w1:=⟨_,rfl⟩
 have hb1:Below w.heap.size w w1:=by rw [← hw1];exact btbox_below _ _ _
 have hs1:w1.heap.size=w.heap.size+1:=by rw [← hw1];exact btbox_size _ _ _
 have HMD:=Lib.hid (made_any (h.below hb1))
 have hv1:RAny evC w1 (.slice p es.length cap) es:=hv.any.below hb1
 have HCB:=Lib.hid (EV.cbatch_any seq (.slice p es.length cap) es w1 hv1)
 obtain ⟨x0,x1,_⟩:=btbox_in (z:=seq) (v:=.slice p es.length cap) (by rw [hw1];exact Below.refl _ w1:Below (btBox w seq (.slice p es.length cap)).heap.size (btBox w seq (.slice p es.length cap)) w1)
 have hw1':w.alloc (.cells #[.int .i64 seq,.slice p es.length cap] 45)=w1:=hw1
 have HW1:=Lib.hid hw1'
 have HH:=Lib.hid h
 have HB1:=Lib.hid hb1
 have HV:=Lib.hid hv
 have hmx:Tryz.prog.follows .mixedOrders=true:=by kernel_rfl
 clear hw1 hw1' hR hv hv1 hb1
 go_enter Tryz.func18,Tryz.ntmps18
 go_wp2_with (rw [HW1.out])
 refine HMD.out.mono ?_
 rintro e w1' ⟨rfl,rfl⟩
 clear HMD
 go_wp2_with fail
 refine HCB.out.mono ?_
 rintro e w2 ⟨rfl,hb2⟩
 have hbw:Below w.heap.size w w2:=HB1.out.trans (hb2.mono (by omega))
 have HBW:=Lib.hid hbw
 have HB2:=Lib.hid hb2
 obtain ⟨c,hc⟩:∃ c,checkB (seq,es)=c:=⟨_,rfl⟩
 rw [hc]
 have y0:w2.cell? ⟨w.heap.size,0,none⟩=some (.int .i64 seq):=(hb2.cell (p:=⟨w.heap.size,0,none⟩) (show w.heap.size<w1.heap.size by omega)).trans x0
 have y1:w2.cell? ⟨w.heap.size,1,none⟩=some (.slice p es.length cap):=(hb2.cell (p:=⟨w.heap.size,1,none⟩) (show w.heap.size<w1.heap.size by omega)).trans x1
 have hs2:=hb2.size
 clear hb2 hbw x0 x1 HCB
 by_cases h0:c=0
 ·subst h0
  obtain ⟨hbig,U,D,mb,X,F,dv,hi⟩:=h
  have hi2:=hi.start.grow (Nat.le_refl _) HBW.out
  have hr2:=ix_row hi2.cells
  obtain ⟨⟨c0,c1,c2,c3,c4,c5,c6,c7⟩,hfr⟩:=hr2.all
  have HI2:=Lib.hid hi2
  have HBIG:=Lib.hid hbig
  have HC:=Lib.hid hc
  obtain ⟨N,hN⟩:∃ N:Int,(l.length:Int)=N:=⟨_,rfl⟩
  rw [hN] at c0
  have hN0:0≤N:=by omega
  have hN1:N≤65536:=by have:=hbig.1;omega
  obtain ⟨la,hla⟩:∃ la,(seqsM l).2=la:=⟨_,rfl⟩
  rw [hla] at c5
  have HN:=Lib.hid hN
  have HLA:=Lib.hid hla
  clear hi hi2 hr2 hfr hbig hc hN c1 c2 c3 c4 c6 c7 hla
  have hla2:=seqs_big HBIG.out
  rw [HLA.out] at hla2
  obtain ⟨hla0,hla1⟩:=hla2
  obtain ⟨hl1,hl64,hall,_,hq1,hq2⟩:=checkB_ok HC.out
  have hl1:1≤es.length:=hl1
  have hl64:es.length≤64:=hl64
  have hwl:IntKind.i64.wrap (la+1)=la+1:=by rw [IntWalk.i64_left];exact IntWalk.wrap64_in _ ⟨by omega,by omega⟩
  have hwn:IntKind.i64.wrap (N+(es.length:Int))=N+(es.length:Int):=by rw [IntWalk.i64_left];exact IntWalk.wrap64_in _ ⟨by omega,by omega⟩
  clear hall hq1 hq2
  have HADD:=Lib.hid (addM_ok (l:=l) HC.out)
  have hb21:(btBox w seq (.slice p es.length cap)).heap.size≤w2.heap.size:=by rw [btbox_size];omega
  by_cases hB:0<N∧seq≠la+1
  ·obtain ⟨hp,hne⟩:=hB
   have t1:decide (N>0)=true:=by rw [decide_eq_true_eq];exact hp
   have t2:decide (0<N)=true:=by rw [decide_eq_true_eq];exact hp
   have t3:(seq != la+1)=true:=by simp [hne]
   have HQ:=Lib.hid (fun W (hb:Below w2.heap.size w2 W)=>in_same (b:=(seq,es)) HH.out (show addM l (seq,es)=(l,140) by rw [HADD.out,HN.out,HLA.out,if_pos ⟨by have:=HN.out;omega,hne⟩]) (HBW.out.trans (hb.mono HBW.out.size)))
   clear hp hne
   go_wp2_with fail
   go_quiet (fail)
   go_wp2_with fail
   try go_ret
   rw [← HR.out]
   exact HQ.out _ (MM.below_drewN (Below.refl _ _) _)
  ·by_cases hp:0<N
   case' pos =>
    have hq:seq=la+1:=Classical.byContradiction fun hne=>hB ⟨hp,hne⟩
    have t1:decide (N>0)=true:=by rw [decide_eq_true_eq];exact hp
    have t2:decide (0<N)=true:=by rw [decide_eq_true_eq];exact hp
    have t3:(seq != la+1)=false:=by simp [hq]
    have HHB:=Lib.hid hB
    clear hq hB hp
    go_wp2_with fail
    go_quiet (fail)
    go_wp2_with fail
   case' neg =>
    have t1:decide (N>0)=false:=by rw [decide_eq_false_iff_not];exact hp
    have t2:decide (0<N)=false:=by rw [decide_eq_false_iff_not];exact hp
    have HHB:=Lib.hid hB
    clear hB hp
    go_wp2_with fail
    go_quiet (fail)
    go_wp2_with fail
   all_goals
    obtain ⟨W,hW⟩:∃ W,w2.drewN nq=W:=⟨_,rfl⟩
    rw [hW]
    have hbW:Below w2.heap.size w2 W:=by rw [← hW];exact MM.below_drewN (Below.refl _ _) _
    have z0:W.cell? ⟨w.heap.size,0,none⟩=some (.int .i64 seq):=by rw [← hW];exact y0
    have z1:W.cell? ⟨w.heap.size,1,none⟩=some (.slice p es.length cap):=by rw [← hW];exact y1
    have d0:W.cell? ⟨g,0,none⟩=some (.int .i64 N):=by rw [← hW];exact c0
    have HBWW:=Lib.hid (HBW.out.trans (hbW.mono HBW.out.size))
    have HIW:=Lib.hid (HI2.out.grow (HBW.out.size) hbW)
    clear y0 y1 c0 c5 hW hbW t1 t2 hs2 hb21
    by_cases hm:65536<N+(es.length:Int)
    ·have u1:decide (N+(es.length:Int)>65536)=true:=by rw [decide_eq_true_eq];exact hm
     have u2:decide (65536<N+(es.length:Int))=true:=by rw [decide_eq_true_eq];exact hm
     have HQ:=Lib.hid (fun W' (hb:Below W.heap.size W W')=>in_same (b:=(seq,es)) HH.out (show addM l (seq,es)=(l,3) by rw [HADD.out,HLA.out,if_neg (fun h=>HHB.out ⟨by have:=HN.out;omega,h.2⟩),if_pos (by rw [HN.out];exact hm)]) (HBWW.out.trans (hb.mono HBWW.out.size)))
     clear hm
     go_wp2_with fail
     go_quiet (fail)
     go_wp2_with fail
     try go_ret
     rw [← HR.out]
     exact HQ.out _ (MM.below_drewN (Below.refl _ _) _)
    ·have u1:decide (N+(es.length:Int)>65536)=false:=by rw [decide_eq_false_iff_not];exact hm
     have u2:decide (65536<N+(es.length:Int))=false:=by rw [decide_eq_false_iff_not];exact hm
     have HL:=Lib.hid (show addM l (seq,es)=(l++docsM (seq,es),0) by rw [HADD.out,HLA.out,if_neg (fun h=>HHB.out ⟨by have:=HN.out;omega,h.2⟩),if_neg (by rw [HN.out];exact hm)])
     have HB9:=Lib.hid (big_app (l:=l) HBIG.out HC.out (by have:=HN.out;show l.length+es.length≤65536;omega))
     have HDS:Hid (docsB (seq,es)=docsM (seq,es)):=Lib.hid (by unfold docsB;rw [if_neg (by simp [HC.out])];rfl)
     have HDL:Hid ((docsM (seq,es)).length=es.length):=Lib.hid (docsM_len _)
     clear hm
     go_wp2_with fail
     go_quiet (fail)
     go_wp2_with fail
     obtain ⟨V,hV⟩:∃ V,W.drewN nq=V:=⟨_,rfl⟩
     rw [hV]
     have hbV:Below W.heap.size W V:=by rw [← hV];exact MM.below_drewN (Below.refl _ _) _
     have HBV:=Lib.hid (HBWW.out.trans (hbV.mono HBWW.out.size))
     have HIV:=Lib.hid (HIW.out.grow (HBWW.out.size) hbV)
     clear hV hbV HIW HBWW z0 z1 d0 u1 u2 HI2 HBW HB2 HB1 HADD HHB
     refine (EV.docs_new seq (.slice p es.length cap) es V (HV.out.any.below HBV.out)).mono ?_
     rintro e w3 ⟨u,rfl,hu,hb3⟩
     rw [HDS.out] at hu
     obtain ⟨DS,hDS⟩:∃ DS,docsM (seq,es)=DS:=⟨_,rfl⟩
     rw [hDS] at hu HB9 HL HDL
     obtain ⟨pu,cu,rfl,hcu,hcm2,_⟩:=hu.shape
     unfold maxLen at hcm2
     obtain ⟨n0,hn0⟩:∃ n0,w.heap.size=n0:=⟨_,rfl⟩
     rw [hn0] at HIV
     have HN0:=Lib.hid hn0
     have hV0:n0≤V.heap.size:=by rw [← hn0];exact HBV.out.size
     have hi3:=(HIV.out.grow hV0 hb3).more (q:=V.heap.size) hV0 fun b hb _ =>
      ⟨fun e=>by have:=HIV.out.alt g HIV.out.ag;omega,fun e=>by have:=HIV.out.alt b (HIV.out.au b e).1;omega,fun e=>by have:=HIV.out.alt b (HIV.out.ao b e).1;omega⟩
     obtain ⟨D1,hD1⟩:∃ D1:Nat→Prop,(fun b=>D b∨(V.heap.size≤b∧b<w3.heap.size))=D1:=⟨_,rfl⟩
     rw [hD1] at hi3
     have hu3:ROn docC D1 w3 (.slice pu DS.length cu) DS:=ROn.weak hu fun b hb h=>by rw [← hD1];exact .inr ⟨h,hb⟩
     have hk3:Kep (fun k=>¬ A k) w w3:=kep_below _ (HBV.out.trans (hb3.mono HBV.out.size))
     have HU3:=Lib.hid hu3
     have HK3:=Lib.hid hk3
     have H3:Hid (∃ U mb X F dv,IdxD (Since A n0 w3.heap.size) U D1 w3 g mb X F dv (rowsE (evM (l++DS.take 0))) (l++DS.take 0) (l++DS.take 0)):=Lib.hid ⟨_,_,_,_,_,by rw [List.take_zero,List.append_nil];exact hi3⟩
     clear hi3 hu hu3 hk3 hD1 HIV hb3 hn0 hDS HDS hV0 HBV
     go_wp2_with fail
     go_loopw [48] (fun iv wr=>∃ i:Nat,i≤DS.length∧iv=.int .i64 i∧Hid (∃ U mb X F dv,IdxD (Since A n0 wr.heap.size) U D1 wr g mb X F dv (rowsE (evM (l++DS.take i))) (l++DS.take i) (l++DS.take i))∧Hid (ROn docC D1 wr (.slice pu DS.length cu) DS)∧Hid (Kep (fun k=>¬ A k) w wr)) (fun iv _=>DS.length - (intOf iv).toNat)
     case atStart=>exact ⟨0,by omega,rfl,H3,HU3,HK3⟩
     case round =>
      obtain ⟨i,hi,rfl,HI,HU,HK⟩:=hrel
      clear H3 HU3 HK3
      by_cases hlt:i<DS.length
      ·have r1:decide ((i:Int)<(DS.length:Int))=true:=by rw [decide_eq_true_eq];omega
       have r2:decide (i<DS.length)=true:=by rw [decide_eq_true_eq];omega
       have r3:(i:Int)<(DS.length:Int):=by omega
       obtain ⟨b,off,fv,rfl,hbl,hbD,k0,k1,k2,hf⟩:=doc_at HU.out hlt
       have HLT:=Lib.hid hlt
       replace k0:wr.cell? ⟨b,off+i*3,none⟩=some (.int .i64 (DS[i]).1):=k0
       replace k1:wr.cell? ⟨b,off+i*3+1,none⟩=some (.int .i64 (DS[i]).2.1):=k1
       replace hf:ROn fldC D1 wr fv (DS[i]).2.2:=hf
       have htk:DS.take (i+1)=DS.take i++[DS[i]]:=List.take_succ_eq_append_getElem hlt
       obtain ⟨⟨sq,⟨t,fs⟩⟩,hd⟩:∃ d,DS[i]=d:=⟨_,rfl⟩
       have hdm:(sq,(t,fs))∈DS:=by rw [← hd];exact List.getElem_mem hlt
       rw [hd] at k0 k1 hf htk
       change ROn fldC D1 wr fv fs at hf
       change wr.cell? ⟨b,off+i*3,none⟩=some (.int .i64 sq) at k0
       change wr.cell? ⟨b,off+i*3+1,none⟩=some (.int .i64 t) at k1
       obtain ⟨pf,cf,rfl,_⟩:=hf.shape
       obtain ⟨L,hL⟩:∃ L,l++DS.take i=L:=⟨_,rfl⟩
       have hLn:l++DS.take (i+1)=L++[(sq,(t,fs))]:=by rw [htk,← List.append_assoc,hL]
       have hbg:BigM L:=by
        have h:=HB9.out
        refine ⟨?_,fun d hd=>h.2 d ?_⟩
        ·have:=h.1
         rw [List.length_append] at this
         rw [← hL,List.length_append,List.length_take]
         omega
        ·rw [← hL] at hd
         rcases List.mem_append.1 hd with hd | hd
         ·exact List.mem_append_left _ hd
         ·exact List.mem_append_right _ (List.mem_of_mem_take hd)
       have hfs:sizeF fs≤65536:=(HB9.out.2 _ (List.mem_append_right _ hdm)).1
       have hI:=HI.out
       rw [hL] at hI
       obtain ⟨U1,mb1,X1,F1,dv1,hi1⟩:=hI
       obtain ⟨p1,cc1,rfl,_⟩:=(OwnS.any hi1.docs).shape
       have hnw:n0≤wr.heap.size:=by rw [← HN0.out];exact HK.out.size
       obtain ⟨q,hq⟩:∃ q,wr.heap.size=q:=⟨_,rfl⟩
       obtain ⟨w4,hw4⟩:∃ w4,wr.alloc (.cells #[.int .i64 sq,.int .i64 t,.slice pf fs.length cf] 67)=w4:=⟨_,rfl⟩
       have hb4:Below wr.heap.size wr w4:=by rw [← hw4];exact (Below.refl _ _).alloc (Nat.le_refl _) _
       have hx4:Box3 w4 q sq t (.slice pf fs.length cf):=by rw [← hw4,← hq];exact heap_alloc_new _ _
       have hU4:ROn docC D1 w4 (.slice (some ⟨b,off,none⟩) DS.length cu) DS:=ROn.keep HU.out (kep_below _ hb4) fun _ _ h=>h
       have hF4:ROn fldC D1 w4 (.slice pf fs.length cf) fs:=ROn.keep hf (kep_below _ hb4) fun _ _ h=>h
       have hi4:=hi1.grow hnw hb4
       have hK4:Kep (fun k=>¬ A k) w w4:=HK.out.trans (kep_below _ hb4)
       have HW4:=Lib.hid hw4
       have hgq:g<q:=by rw [← hq];exact hi1.alt g hi1.ag
       have hqq:q<w4.heap.size:=hx4.lt
       have hqn:∀ k,Since A n0 wr.heap.size k→k≠q:=fun k hk e=>by have:=hi1.alt k hk;omega
       have hqU:¬ U1 q:=fun h=>hqn q (hi1.au q h).1 rfl
       have hqo:(Value.slice p1 L.length cc1).ownBlock≠some q:=fun h=>hqn q (hi1.ao q h).1 rfl
       have hqD:¬ D1 q:=fun h=>hqn q (hi1.ad q h).1 rfl
       clear hw4 hb4 hi1 hf hd hdm htk HI HU HK hqn hnw
       obtain ⟨wd,hwd⟩:∃ wd,w4.drew=wd:=⟨_,rfl⟩
       have hkd:Below w4.heap.size w4 wd:=by rw [← hwd];exact (Below.refl _ _).drew
       have hid':=hi4.grow (Nat.le_trans (by rw [← HN0.out];exact hK4.size) (Nat.le_refl _)) hkd
       have hxd:=hx4.keep (kep_below (fun _=>True) hkd) trivial
       have hUd:ROn docC D1 wd (.slice (some ⟨b,off,none⟩) DS.length cu) DS:=ROn.keep hU4 (kep_below _ hkd) fun _ _ h=>h
       have hFd:ROn fldC D1 wd (.slice pf fs.length cf) fs:=ROn.keep hF4 (kep_below _ hkd) fun _ _ h=>h
       have hKd:Kep (fun k=>¬ A k) w wd:=hK4.trans (kep_below _ hkd)
       have hGL:=fun W' (hW:Kep (fun _=>True) wd W')=>((ix_row hid'.cells).keep hW trivial).all.1
       have hXL:=fun W' (hW:Kep (fun _=>True) wd W')=>(hxd.keep hW trivial).all
       have HGL:=Lib.hid hGL
       have HXL:=Lib.hid hXL
       have HID:=Lib.hid hid'
       have HXD:=Lib.hid hxd
       have HUD:=Lib.hid hUd
       have HFD:=Lib.hid hFd
       have HKD:=Lib.hid hKd
       have HWD:=Lib.hid hwd
       have HLN:=Lib.hid hLn
       have HBG:=Lib.hid hbg
       have hqd:q<wd.heap.size:=Nat.lt_of_lt_of_le hqq hkd.size
       clear hwd hkd hid' hxd hUd hFd hKd hGL hXL hi4 hx4 hU4 hF4 hK4 hL hLn hbg hlt hqq
       go_wp2_with (rw [HW4.out])
       refine RS.begin_ (T:=fun _=>True) [(0,true),(1,true),(2,true),(3,true),(4,true),(5,true),(6,true),(7,true),(8,true),(9,true),(10,true)] hmx (by kernel_rfl) (fun _ _ d _ _ h=>by cases d<;>exact h) ?_
       simp only [RS.ordered,List.map_cons,List.map_nil,List.getElem?_toArray,List.getElem?_cons_succ,List.getElem?_cons_zero]
       rw [HWD.out]
       repeat (refine RS.take (by rfl) (by intro W' hW;obtain ⟨c0,c1,c2,c3,c4,c5,c6,c7⟩:=HGL.out W' hW;obtain ⟨x0,x1,x2⟩:=HXL.out W' hW;go_simp;with_reducible rfl) ?_;simp only [Act.put,List.setIfInBounds_toArray,List.set_cons_zero,List.set_cons_succ])
       refine RS.done ?_
       simp only [List.length_cons,List.length_nil,List.drop_succ_cons,List.drop_zero]
       go_wp2_with fail
       have hn0d:n0≤wd.heap.size:=by rw [← HN0.out];exact HKD.out.size
       refine (add_any U1 X1 mb1 L.length (rowsE (evM L)) F1 t (.slice pf fs.length cf) fs wd HID.out.rows (fun b hb=>HID.out.alt b (HID.out.au b hb).1) HFD.out.any (rows_big HBG.out) (posts_big HBG.out) (Nat.le_trans (termsE_count (t,fs)) (by show sizeF fs≤100000;omega))).mono ?_
       rintro e w5 ⟨rfl,⟨X2,F2,hr2⟩,hk5⟩
       have hi5:=HID.out.rowed hn0d hr2 hk5
       have hsn:=snoc_rows L (sq,(t,fs))
       dsimp only at hsn
       rw [← hsn] at hi5
       have hK5:Kep (fun k=>¬ A k) w w5:=HKD.out.andThen hk5 fun b hb hn hu=>(HID.out.au b hu).1.elim hn fun h=>by have:=HN0.out;omega
       have hx5:=HXD.out.keep hk5 hqU
       have hU5:ROn docC D1 w5 (.slice (some ⟨b,off,none⟩) DS.length cu) DS:=ROn.keep HUD.out (hk5.mono fun k hk=>(HID.out.ad k hk).2.2) fun _ _ h=>h
       have hF5:ROn fldC D1 w5 (.slice pf fs.length cf) fs:=ROn.keep HFD.out (hk5.mono fun k hk=>(HID.out.ad k hk).2.2) fun _ _ h=>h
       obtain ⟨we,hwe⟩:∃ we,w5.drew=we:=⟨_,rfl⟩
       have hke:Below w5.heap.size w5 we:=by rw [← hwe];exact (Below.refl _ _).drew
       have hn05:n0≤w5.heap.size:=by rw [← HN0.out];exact hK5.size
       have hie:=hi5.grow hn05 hke
       have HIE:=Lib.hid hie
       have HXE:=Lib.hid (hx5.keep (kep_below (fun _=>True) hke) trivial)
       have HUE:Hid (ROn docC D1 we (.slice (some ⟨b,off,none⟩) DS.length cu) DS):=Lib.hid (ROn.keep hU5 (kep_below _ hke) fun _ _ h=>h)
       have HFE:Hid (ROn fldC D1 we (.slice pf fs.length cf) fs):=Lib.hid (ROn.keep hF5 (kep_below _ hke) fun _ _ h=>h)
       have HKE:Hid (Kep (fun k=>¬ A k) w we):=Lib.hid (hK5.trans (kep_below _ hke))
       have hgo:(Value.slice p1 L.length cc1).ownBlock≠some g:=fun e=>(HIE.out.ao g e).2.1 rfl
       have HGL2:=Lib.hid (fun W' (hW:Kep (fun b=>(Value.slice p1 L.length cc1).ownBlock≠some b) we W')=>((ix_row HIE.out.cells).keep hW hgo).all.1)
       have HXL2:=Lib.hid (fun W' (hW:Kep (fun b=>(Value.slice p1 L.length cc1).ownBlock≠some b) we W')=>(HXE.out.keep hW hqo).all)
       have HWE:=Lib.hid hwe
       have hqe:q<we.heap.size:=HXE.out.lt
       have hn0e:n0≤we.heap.size:=Nat.le_trans hn05 hke.size
       clear hwe hke hie hi5 hr2 hk5 hK5 hx5 hU5 hF5 hsn HID HXD HUD HFD HKD HWD HGL HXL hn05 hn0d
       go_wp2_with fail
       refine RS.begin_ (T:=fun b=>(Value.slice p1 L.length cc1).ownBlock≠some b) [(0,true),(1,true),(2,true),(3,true),(4,true),(5,true),(6,false),(7,false),(8,true),(9,true)] hmx (by kernel_rfl) (fun _ _ d _ _ h=>by cases d<;>exact h) ?_
       simp only [RS.ordered,List.map_cons,List.map_nil,List.getElem?_toArray,List.getElem?_cons_succ,List.getElem?_cons_zero]
       rw [HWE.out]
       repeat (refine RS.take (by rfl) (by intro W' hW;obtain ⟨c0,c1,c2,c3,c4,c5,c6,c7⟩:=HGL2.out W' hW;obtain ⟨x0,x1,x2⟩:=HXL2.out W' hW;go_simp;with_reducible rfl) ?_;simp only [Act.put,List.setIfInBounds_toArray,List.set_cons_zero,List.set_cons_succ])
       refine RS.alone (by rfl) (fun K hK => ?_)
       go_simp
       refine hK.out _ _ (kep_alloc _ _ _) ?_
       clear hK K
       refine RS.alone (by rfl) (fun K hK => ?_)
       have hbl:=HBG.out.1
       refine wp_append_s docE (S:=D1) _ _ rfl (.slice p1 L.length cc1) L we [.int .i64 sq,.int .i64 t,.slice pf fs.length cf] (sq,(t,fs)) rfl rfl HIE.out.docs (doc_on.2 ⟨_,rfl,HFE.out⟩) rfl (by unfold maxLen;omega) (by omega) ?_
       intro v' w6 ho6 hk6 hg6 hk6'
       refine hK.out _ _ hk6' ?_
       clear hK K hbl
       obtain ⟨p6,c6',rfl,_⟩:=(OwnS.any ho6).shape
       obtain ⟨M,hM⟩:∃ M,(L++[(sq,(t,fs))]).length=M:=⟨_,rfl⟩
       rw [hM] at ho6 hg6 ⊢
       repeat (refine RS.take (by rfl) (by intro W' hW;go_simp;with_reducible rfl) ?_;simp only [Act.put,List.setIfInBounds_toArray,List.set_cons_zero,List.set_cons_succ])
       refine RS.done ?_
       simp only [List.length_cons,List.length_nil,List.drop_succ_cons,List.drop_zero]
       obtain ⟨w7,hw7⟩:∃ w7,w6.setCell ⟨g,6,none⟩ (.slice p6 M c6')=w7:=⟨_,rfl⟩
       have ho6':OwnS docC 67 D1 w6 (.slice p6 M c6') (L++[(sq,(t,fs))]):=OwnS.weak ho6 (fun _ _ h=>h.1) fun b hb hd=>by
        rcases hg6 b hb with h | h
        ·exact HIE.out.own h hd
        ·have:=HIE.out.alt b (HIE.out.ad b hd).1;omega
       have hi7:=HIE.out.docd hn0e hk6 ho6' hg6
       have hks:Kep (fun k=>k≠g) w6 (w6.setCell ⟨g,6,none⟩ (.slice p6 M c6')):=kep_set (by simp) _
       have hs7:(w6.setCell ⟨g,6,none⟩ (.slice p6 M c6')).heap.size=w6.heap.size:=by simp
       rw [← hs7] at hi7
       have hr6:Row8 w6 g _ _ _ _ _ _ _ _:=(ix_row HIE.out.cells).keep hk6 hgo
       have c6:w6.cell? ⟨g,6,none⟩=some (.slice p1 L.length cc1):=hr6.all.1.2.2.2.2.2.2.1
       have f6:=hr6.all.2 6
       rw [hw7] at hi7 hks
       have hx7:Box3 w7 q sq t (.slice pf fs.length cf):=(HXE.out.keep hk6 hqo).keep hks (by omega)
       have hdk:∀ k,D1 k→(Value.slice p1 L.length cc1).ownBlock≠some k:=fun k hk e=>HIE.out.own e hk
       have hU7:ROn docC D1 w7 (.slice (some ⟨b,off,none⟩) DS.length cu) DS:=ROn.keep (ROn.keep HUE.out (hk6.mono fun k hk=>hdk k hk) fun _ _ h=>h) (hks.mono fun k hk=>(HIE.out.ad k hk).2.1) fun _ _ h=>h
       have hF7:ROn fldC D1 w7 (.slice pf fs.length cf) fs:=ROn.keep (ROn.keep HFE.out (hk6.mono fun k hk=>hdk k hk) fun _ _ h=>h) (hks.mono fun k hk=>(HIE.out.ad k hk).2.1) fun _ _ h=>h
       have hNA:∀ k,k<w.heap.size→¬ A k→¬ Since A n0 we.heap.size k:=fun k hk hn h=>h.elim hn fun h=>by have:=HN0.out;omega
       have hK7:Kep (fun k=>¬ A k) w w7:=(HKE.out.andThen hk6 fun k hk hn e=>hNA k hk hn (HIE.out.ao k e).1).andThen hks fun k hk hn e=>hNA k hk hn (by rw [e];exact HIE.out.ag)
       obtain ⟨wf,hwf⟩:∃ wf,w7.drew=wf:=⟨_,rfl⟩
       have hkf:Below w7.heap.size w7 wf:=by rw [← hwf];exact (Below.refl _ _).drew
       have hn07:n0≤w7.heap.size:=by rw [← HN0.out];exact hK7.size
       have HIF:=Lib.hid (hi7.grow hn07 hkf)
       have hxf:=hx7.keep (kep_below (fun _=>True) hkf) trivial
       have HXL3:=Lib.hid (fun W' (hW:Kep (fun _=>True) wf W')=>(hxf.keep hW trivial).all)
       have HUF:Hid (ROn docC D1 wf (.slice (some ⟨b,off,none⟩) DS.length cu) DS):=Lib.hid (ROn.keep hU7 (kep_below _ hkf) fun _ _ h=>h)
       have HFF:Hid (ROn fldC (fun k=>k≠g) wf (.slice pf fs.length cf) fs):=Lib.hid (ROn.keep hF7 (kep_below _ hkf) fun k _ h=>(HIE.out.ad k h).2.1)
       have HKF:Hid (Kep (fun k=>¬ A k) w wf):=Lib.hid (hK7.trans (kep_below _ hkf))
       have HWF:=Lib.hid hwf
       have HW7:=Lib.hid hw7
       have hn0f:n0≤wf.heap.size:=Nat.le_trans hn07 hkf.size
       clear hM hwf hkf hi7 hks hs7 hr6 hw7 hx7 hU7 hF7 hNA hK7 hxf ho6 ho6' hk6 hg6 hk6' HIE HXE HUE HFE HKE HWE HGL2 HXL2 hn07 hn0e hdk hgo
       go_wp2_with (rw [HW7.out])
       clear c6 f6 HW7
       refine RS.begin_ (T:=fun _=>True) [(0,true),(1,true),(2,true),(3,true)] hmx (by kernel_rfl) (fun _ _ d _ _ h=>by cases d<;>exact h) ?_
       simp only [RS.ordered,List.map_cons,List.map_nil,List.getElem?_toArray,List.getElem?_cons_succ,List.getElem?_cons_zero]
       rw [HWF.out]
       repeat (refine RS.take (by rfl) (by intro W' hW;obtain ⟨x0,x1,x2⟩:=HXL3.out W' hW;go_simp;with_reducible rfl) ?_;simp only [Act.put,List.setIfInBounds_toArray,List.set_cons_zero,List.set_cons_succ])
       refine RS.done ?_
       simp only [List.length_cons,List.length_nil,List.drop_succ_cons,List.drop_zero]
       go_wp2_with fail
       have hsb:=sizeM_big HBG.out
       have hlb:=HBG.out.1
       have hsb2:65552*L.length≤65552*65536:=Nat.mul_le_mul_left _ hlb
       refine (count_row g (L.length:Int) (sizeM L:Int) (timesM L).1 (timesM L).2.1 (seqsM L).1 (seqsM L).2 sq t _ _ (.slice pf fs.length cf) fs wf (ix_row HIF.out.cells) HFF.out (by omega) (by omega) (by omega) (by omega) (by omega)).mono ?_
       rintro e w8 ⟨rfl,hr8,hk8⟩
       have hi8:=HIF.out.counted hn0f hk8 (row_snoc (d:=(sq,(t,fs))) hr8)
       rw [← HLN.out] at hi8
       have HI8:Hid (∃ U mb X F dv,IdxD (Since A n0 w8.heap.size) U D1 w8 g mb X F dv (rowsE (evM (l++DS.take (i+1)))) (l++DS.take (i+1)) (l++DS.take (i+1))):=Lib.hid ⟨_,_,_,_,_,hi8⟩
       have HU8:Hid (ROn docC D1 w8 (.slice (some ⟨b,off,none⟩) DS.length cu) DS):=Lib.hid (ROn.keep HUF.out (hk8.mono fun k hk=>(HIF.out.ad k hk).2.1) fun _ _ h=>h)
       have HK8:Hid (Kep (fun k=>¬ A k) w w8):=Lib.hid (HKF.out.andThen hk8 fun k hk hn e=>HIF.out.ag.elim (fun h=>hn (by rw [e];exact h)) fun h=>by have:=HN0.out;omega)
       clear hr8 hk8 hi8 HIF HUF HFF HKF HWF HXL3 hsb hlb hsb2
       go_wp2_with fail
       have hlt:=HLT.out
       go_roundw
       case rel=>exact ⟨i+1,by omega,by go_num,HI8,HU8,HK8⟩
       case measure=>simp [intOf];omega
      ·obtain rfl:i=DS.length:=by omega
       have r1:decide ((DS.length:Int)<(DS.length:Int))=false:=by simp
       have r2:decide (DS.length<DS.length)=false:=by simp
       have hI:=HI.out
       rw [List.take_length] at hI
       have HI9:=Lib.hid hI
       clear hI HI hlt
       go_wp2_with fail
       try go_ret
       rw [← HR.out]
       obtain ⟨U,mb,X,F,dv,hI⟩:=HI9.out
       refine ⟨by rw [HL.out];rfl,?_,HK.out⟩
       rw [HL.out,HN0.out]
       exact ⟨HB9.out,U,D1,mb,X,F,dv,hI⟩
 ·have q1:(c != 0)=true:=by simp [h0]
  have HQ:=Lib.hid (in_same h (show addM l (seq,es)=(l,c) by unfold addM;rw [if_pos (by rw [hc];exact h0),hc]) HBW.out)
  clear h hc h0
  go_wp2_with fail
  try go_ret
  rw [← HR.out]
  exact HQ.out
end Go.Proofs.YtidhgicajlaafaaGreat.MX
