import Derived.Test.YtidhgicajlaafaaGreatZD37
set_option maxRecDepth 100000
set_option maxHeartbeats 8000000
set_option linter.unusedVariables false
set_option linter.unusedSimpArgs false
namespace Go.Proofs.YtidhgicajlaafaaGreat.MX
open Go Go.RowKit MM EM
open EV (docC docE evC fldC btBox docsB docsL DocsOn doc_at)
theorem OwnX.src {α:Type} {C:Codec α} {e:TypeId} {B:Nat} {S:Nat→Prop} {w:World} {v:Value} {es:List α} (h:OwnX C e B S w v es):SrcX C S w v es:=by
 obtain ⟨raw,ho,hm⟩:=h
 rcases ho.2 with ⟨rfl,h0⟩ | ⟨g,cap,cur,rfl,hg,hh,hnc,hmx,hs,ht⟩
 ·have:es=[]:=List.eq_nil_of_length_eq_zero h0
  subst this
  exact ⟨none,0,raw,rfl,Nat.le_refl _,fun _=>rfl,hm,.inl rfl⟩
 ·refine ⟨some ⟨g,0,none⟩,cap,raw,rfl,hnc,(fun h=>by cases h),hm,.inr ⟨g,0,rfl,fun j u hj => ?_⟩⟩
  have:=Lib.cells_of_row hh (es.length*C.size) j u (by rw [ht];exact hj)
  rw [add_at] at this
  exact this
theorem results_row2 {P:Program} {fn:Func} {t:TypeId} {ty:TypeDesc} {p u:Tmp} (h:fn.results=#[.cell p t,.tmp u]) (hu:P.underlying t=some ty) (hd:(match ty with | .struct _ | .array _ _=>true | _=>false)=true) (cs:Array Value) (hi:(P.info? t).map (·.size)=some cs.size) (tmps:Array Value) (w:World) (g:Nat)
  (hp:tmps.getD p undef=.pointer (some ⟨g,0,none⟩)) (hg:w.heap[g]? = some (.cells cs t (0,0))):(results fn tmps).run P w=.ok (.tuple #[.agg cs,tmps.getD u undef]) w:=by
 have hp':tmps[p]?.getD undef=.pointer (some ⟨g,0,none⟩):=by simpa using hp
 have hl:=run_loadVar_row (P:=P) w g t t cs (0,0) ty hg hu hd hi
 simp [results,h,hp',asAddr,hl]
theorem infoR1:(Tryz.prog.info? 30).map (·.size)=some 1:=by kernel_rfl
def RAddLeft (P:Nat→Prop) (l:List SM.Doc) (b:Bat) (w:World) (e:Ending) (w':World):Prop :=
 ∃ u,e=.returned (.tuple #[.agg #[u],.int .i64 (addM l b).2])∧ROn docC (fun k=>(k<w.heap.size∧P k)∨w.heap.size≤k) w' u (addM l b).1∧Below w.heap.size w w'
theorem radd_any (P:Nat→Prop) (l:List SM.Doc) (seq:Int) (lv bv:Value) (es:List Ev) (w:World) (hl:ROn docC P w lv l) (hb:ROn evC P w bv es) (hB:BigM l) :
  Calls Tryz.prog 30 #[.agg #[lv],.agg #[.int .i64 seq,bv]] w (RAddLeft P l (seq,es) w):=by
 obtain ⟨R,hR⟩:∃ R,RAddLeft P l (seq,es) w=R:=⟨_,rfl⟩
 rw [hR]
 have HR:=Lib.hid hR
 obtain ⟨pl,cl,rfl,hlc,hcm,hnl⟩:=hl.shape
 obtain ⟨pb,cb,rfl,hbc,hbm,_⟩:=hb.shape
 unfold maxLen at hcm hbm
 obtain ⟨w3,hw3⟩:∃ w3,((w.alloc (.cells #[.slice pl l.length cl] 30)).alloc (.cells #[.int .i64 seq,.slice pb es.length cb] 45)).alloc (.cells #[.slice none 0 0] 30)=w3:=⟨_,rfl⟩
 have hb3:Below w.heap.size w w3:=by rw [← hw3];exact (((Below.refl _ _).alloc (Nat.le_refl _) _).alloc (by simp) _).alloc (by simp;omega) _
 have hs3:w3.heap.size=w.heap.size+3:=by rw [← hw3];simp
 have x0:w3.heap[w.heap.size]? = some (.cells #[.slice pl l.length cl] 30 (0,0)):=by
  rw [← hw3]
  exact ((kep_alloc (fun _=>True) _ _).block w.heap.size (by simp;omega) trivial).trans (((kep_alloc (fun _=>True) _ _).block w.heap.size (by simp) trivial).trans (heap_alloc_new _ _))
 have x1:Two w3 (w.heap.size+1) 45 (.int .i64 seq) (.slice pb es.length cb):=by
  rw [← hw3]
  have:=two_new (w.alloc (.cells #[.slice pl l.length cl] 30)) 45 (.int .i64 seq) (.slice pb es.length cb)
  rw [World.size_alloc] at this
  exact this.keep (kep_alloc (fun _=>True) _ _) trivial
 have x2:w3.heap[w.heap.size+1+1]? = some (.cells #[.slice none 0 0] 30 (0,0)):=by
  rw [← hw3]
  have:=heap_alloc_new ((w.alloc (.cells #[.slice pl l.length cl] 30)).alloc (.cells #[.int .i64 seq,.slice pb es.length cb] 45)) (.cells #[.slice none 0 0] 30)
  rw [World.size_alloc,World.size_alloc] at this
  exact this
 have HCB:=Lib.hid (EV.rcbatch_any seq (.slice pb es.length cb) es w3 (hb.any.below hb3))
 have HL:=Lib.hid hl
 have HB:=Lib.hid hb
 have HB3:=Lib.hid hb3
 have HX0:=Lib.hid x0
 have HX1:=Lib.hid x1
 have HX2:=Lib.hid x2
 have HW3:=Lib.hid hw3
 have c1:=x1.c0
 have c2:=x1.c1
 clear hl hb hb3 x0 x1 x2 hw3 hR
 go_enter Tryz.func30,Tryz.ntmps30
 go_wp2_with (rw [HW3.out])
 refine HCB.out.mono ?_
 rintro e w4 ⟨rfl,hb4⟩
 have hs4:=hb4.size
 have x0:=(hb4.block w.heap.size (by omega)).trans HX0.out
 have x1:=HX1.out.below hb4 (by omega)
 have x2:=(hb4.block (w.heap.size+1+1) (by omega)).trans HX2.out
 have HX04:=Lib.hid x0
 have HX14:=Lib.hid x1
 have HX24:=Lib.hid x2
 have HB4:=Lib.hid (HB3.out.trans (hb4.mono (by omega)))
 have y0:w4.cell? ⟨w.heap.size,0,none⟩=some (.slice pl l.length cl):=row_cell x0 0
 have y1:=x1.c0
 have y2:=x1.c1
 have y3:w4.cell? ⟨w.heap.size+1+1,0,none⟩=some (.slice none 0 0):=row_cell x2 0
 have f3:w4.frozen? ⟨w.heap.size+1+1,0,none⟩=false:=frozen_of_row w4 _ 0 _ _ x2
 have HSET:=Lib.hid (fun (W:World) (hb:Below w4.heap.size w4 W) (u:Value)=>heap_setCell_same W (w.heap.size+1+1) 0 _ _ u ((hb.block (w.heap.size+1+1) (by omega)).trans x2))
 clear hb4 x0 x1 x2 HX0 HX1 HX2 HCB HB3 c1 c2
 obtain ⟨c,hc⟩:∃ c,checkB (seq,es)=c:=⟨_,rfl⟩
 rw [hc]
 have HEND:=Lib.hid (fun (z:Int) (hz:addM l (seq,es)=(l,z)) (W:World) (hb:Below w4.heap.size w4 W)=>(show RAddLeft P l (seq,es) w (.returned (.tuple #[.agg #[.slice pl l.length cl],.int .i64 z])) (W.setCell ⟨w.heap.size+1+1,0,none⟩ (.slice pl l.length cl)) from by
  have hk:Kep (fun b=>b≠w.heap.size+1+1) W (W.setCell ⟨w.heap.size+1+1,0,none⟩ (.slice pl l.length cl)):=kep_set (by simp) _
  have hbW:=HB4.out.trans (hb.mono (by omega))
  refine ⟨_,by rw [hz],?_,hbW.trans (hk.below hbW.size fun k hk=>by omega)⟩
  rw [hz]
  exact ROn.keep (ROn.keep (ROn.weak HL.out (T:=fun k=>k<w.heap.size∧P k) fun b hb h=>⟨hb,h⟩) (kep_below _ hbW) fun _ _ h=>h) (hk.mono fun b hb=>by omega) fun b _ h=>.inl h))
 by_cases h0:c=0
 ·subst h0
  obtain ⟨la,hla⟩:∃ la,(seqsM l).2=la:=⟨_,rfl⟩
  have hla2:=seqs_big hB
  rw [hla] at hla2
  obtain ⟨hla0,hla1⟩:=hla2
  obtain ⟨hl1,hl64,hall,_,hq1,hq2⟩:=checkB_ok hc
  have hl1:1≤es.length:=hl1
  have hl64:es.length≤64:=hl64
  have hln:=hB.1
  have hwl:IntKind.i64.wrap (la+1)=la+1:=by rw [IntWalk.i64_left];exact IntWalk.wrap64_in _ ⟨by omega,by omega⟩
  have hwn:IntKind.i64.wrap (65536 - (l.length:Int))=65536 - (l.length:Int):=by rw [IntWalk.i64_left];exact IntWalk.wrap64_in _ ⟨by omega,by omega⟩
  have HADD:=Lib.hid (addM_ok (l:=l) (b:=(seq,es)) hc)
  rw [hla] at HADD
  have HC:=Lib.hid hc
  clear hall hq1 hq2 hc
  have HTK:=Lib.hid (show ROn docC P w4 (.slice pl l.length cl) l from ROn.keep (ROn.keep (ROn.weak HL.out (T:=fun k=>k<w.heap.size∧P k) fun b hb h=>⟨hb,h⟩) (kep_below _ HB4.out) fun _ _ h=>h) (Kep.refl _ _) fun b _ h=>h.2)
  by_cases hp:0<l.length
  case' pos =>
   obtain ⟨M,hM⟩:∃ M,l.length=M+1:=⟨l.length - 1,by omega⟩
   have hwm:IntKind.i64.wrap ((l.length:Int) - 1)=(M:Int):=by rw [IntWalk.i64_left,IntWalk.wrap64_in _ ⟨by omega,by omega⟩];omega
   obtain ⟨b,off,fv,rfl,hbl,hx1,k0,hx2,hx3,hx4⟩:=doc_at HTK.out (k:=M) (by omega)
   clear hx1 hx2 hx3 hx4
   have hse:(l[M]'(by omega)).1=la:=by
    have e:l.length - 1=M:=by omega
    have e2:(l.getD M SM.noDoc)=l[M]'(by omega):=by rw [List.getD_eq_getElem?_getD,List.getElem?_eq_getElem (by omega),Option.getD_some]
    rw [← hla,← e2]
    unfold seqsM
    rw [if_neg (by intro e;rw [e] at hp;simp at hp),e]
   replace k0:w4.cell? ⟨b,off+M*3,none⟩=some (.int .i64 la):=by rw [← hse];exact k0
   have t1:decide ((l.length:Int)>0)=true:=by rw [decide_eq_true_eq];omega
   have t2:decide (0<l.length)=true:=decide_eq_true hp
   have q3:(M:Int)<(l.length:Int):=by omega
   by_cases hne:seq=la+1
   case' neg =>
    have t3:(seq != la+1)=true:=by simp [hne]
    have HQ:=Lib.hid (HEND.out 140 (by rw [HADD.out,if_pos ⟨hp,hne⟩]))
    clear hne hp hse hM hla
    go_wp2_with fail
    go_quiet (fail)
    go_wp2_with fail
    refine bodyPost_ret (results_row2 (p:=4) (u:=5) rfl Tryz.underlying30 rfl _ (by exact infoR1) _ _ (w.heap.size+1+1) rfl (HSET.out _ (MM.below_drewN (Below.refl _ _) _) _)) rfl ?_
    rw [← HR.out]
    exact HQ.out _ (MM.below_drewN (Below.refl _ _) _)
   case' pos =>
    have t3:(seq != la+1)=false:=by simp [hne]
    have HNO:=Lib.hid (show ¬ (0<l.length∧seq≠la+1) from fun h=>h.2 hne)
    clear hne hp hse hM hla
  case' neg =>
   have t1:decide ((l.length:Int)>0)=false:=by rw [decide_eq_false_iff_not];omega
   have t2:decide (0<l.length)=false:=decide_eq_false hp
   have HNO:=Lib.hid (show ¬ (0<l.length∧seq≠la+1) from fun h=>hp h.1)
   clear hp hla
  all_goals
   by_cases hm:65536<(l.length:Int)+(es.length:Int)
   ·have u1:decide ((es.length:Int)>65536 - (l.length:Int))=true:=by rw [decide_eq_true_eq];omega
    have HQ:=Lib.hid (HEND.out 3 (by rw [HADD.out,if_neg HNO.out,if_pos hm]))
    clear hm
    go_wp2_with fail
    go_quiet (fail)
    go_wp2_with fail
    refine bodyPost_ret (results_row2 (p:=4) (u:=5) rfl Tryz.underlying30 rfl _ (by exact infoR1) _ _ (w.heap.size+1+1) rfl (HSET.out _ (MM.below_drewN (Below.refl _ _) _) _)) rfl ?_
    rw [← HR.out]
    exact HQ.out _ (MM.below_drewN (Below.refl _ _) _)
   ·have u1:decide ((es.length:Int)>65536 - (l.length:Int))=false:=by rw [decide_eq_false_iff_not];omega
    have HLL:=Lib.hid (show addM l (seq,es)=(l++docsM (seq,es),0) by rw [HADD.out,if_neg HNO.out,if_neg hm])
    have HDS:Hid (docsB (seq,es)=docsM (seq,es)):=Lib.hid (by unfold docsB;rw [if_neg (by simp [HC.out])];rfl)
    clear hm HEND
    go_wp2_with fail
    go_quiet (fail)
    obtain ⟨W,hW⟩:∃ W,w4.drewN nq=W:=⟨_,rfl⟩
    rw [hW]
    have hbW:Below w4.heap.size w4 W:=by rw [← hW];exact MM.below_drewN (Below.refl _ _) _
    have hbWW:=HB4.out.trans (hbW.mono (by omega))
    have z0:=(show W.cell? ⟨w.heap.size,0,none⟩=w4.cell? ⟨w.heap.size,0,none⟩ by rw [← hW];rfl).trans y0
    have z1:=(show W.cell? ⟨w.heap.size+1,0,none⟩=w4.cell? ⟨w.heap.size+1,0,none⟩ by rw [← hW];rfl).trans y1
    have z2:=(show W.cell? ⟨w.heap.size+1,1,none⟩=w4.cell? ⟨w.heap.size+1,1,none⟩ by rw [← hW];rfl).trans y2
    have hsW:w.heap.size+3≤W.heap.size:=by have:=hbW.size;omega
    obtain ⟨P1,hP1⟩:∃ P1:Nat→Prop,(fun k=>k<w.heap.size∧P k)=P1:=⟨_,rfl⟩
    have hP2:∀ b,P1 b→b<w.heap.size:=fun b h=>by rw [← hP1] at h;exact h.1
    have hl1':=ROn.weak HL.out (T:=P1) fun b hb h=>by rw [← hP1];exact ⟨hb,h⟩
    have hb1':=ROn.weak HB.out (T:=P1) fun b hb h=>by rw [← hP1];exact ⟨hb,h⟩
    obtain ⟨W1,hW1⟩:∃ W1,W.alloc (.cells #[] 67)=W1:=⟨_,rfl⟩
    have hba:Below W.heap.size W W1:=by rw [← hW1];exact (Below.refl _ _).alloc (Nat.le_refl _) _
    have hbw1:=hbWW.trans (hba.mono (by omega))
    have a0:=(hba.cell (p:=⟨w.heap.size,0,none⟩) (show w.heap.size<W.heap.size by omega)).trans z0
    have HO0:Hid (OwnX docC 67 W.heap.size P1 W1 (.slice (some ⟨W.heap.size,0,none⟩) 0 0) []):=Lib.hid (by rw [← hW1];exact OwnX.lit0 (C:=docC) 67 P1 W (Nat.le_refl _))
    have HSRC:=Lib.hid (ROn.src (ROn.keep hl1' (kep_below _ hbw1) fun _ _ h=>h))
    have HBE:=Lib.hid hb1'
    have HP2:=Lib.hid hP2
    have HP1:=Lib.hid hP1
    have HBW1:=Lib.hid hbw1
    have HBA:=Lib.hid hba
    have HW1:=Lib.hid hW1
    have HX1W:=Lib.hid (HX14.out.below hbW (by have:=HX14.out.lt;exact this))
    have HX2W:=Lib.hid ((hbW.block (w.heap.size+1+1) (by omega)).trans HX24.out)
    clear hl1' hb1' hP1 hP2 hbw1 hba hW1 hbW hbWW hW y0 y1 y2 y3 HSET t1 HTK HNO HADD
    go_wp2_with (first | (rw [HW1.out]) | (at_builtin;go_loud (refine wpList_append_x docE rfl _ _ rfl W.heap.size _ [] rfl HO0.out (fun b _ hb=>.inl (by have:=HP2.out b hb;omega)) _ l rfl HSRC.out (by unfold maxLen;simp;omega) (by simp;omega) (by have:=HBA.out.size;omega) ?_;intro v' w6 ho6 hb6 _;rw [List.nil_append] at ho6;obtain ⟨p6,c6,rfl,_⟩:=ho6.any.shape;have hx6:=(HX1W.out.below HBA.out (by have:=HX1W.out.lt;exact this)).below hb6 (by have:=HX1W.out.lt;exact this);have m1:=hx6.c0;have m2:=hx6.c1;have HO6:=Lib.hid ho6;have HB6:=Lib.hid hb6;clear ho6 hb6 hx6)))
    have hbw6:Below w.heap.size w w6:=HBW1.out.trans (HB6.out.mono (by omega))
    have HBW6:=Lib.hid hbw6
    refine (EV.rdocs_on P1 seq (.slice pb es.length cb) es w6 (ROn.keep HBE.out (kep_below _ hbw6) fun _ _ h=>h)).mono ?_
    rintro e w7 ⟨u,rfl,hu,hb7⟩
    rw [HDS.out] at hu
    obtain ⟨pu,cu,rfl,hcu,_⟩:=hu.any.shape
    have hs6:W.heap.size≤w6.heap.size:=Nat.le_trans HBA.out.size HB6.out.size
    have HSRC2:=Lib.hid (OwnX.src (OwnX.weak hu (T:=P1) fun _ _ h=>h.2))
    have HO7:=Lib.hid (OwnX.keep HO6.out (kep_below (fun _=>True) hb7) (fun _ _ _=>trivial) fun _ _=>trivial)
    have HBW7:=Lib.hid (HBW6.out.trans (hb7.mono HBW6.out.size))
    have HB67:=Lib.hid ((HBA.out.trans HB6.out).trans (hb7.mono hs6))
    have hdl:(docsM (seq,es)).length=es.length:=docsM_len _
    obtain ⟨DS,hDS⟩:∃ DS,docsM (seq,es)=DS:=⟨_,rfl⟩
    rw [hDS] at HSRC2 hdl HLL ⊢
    have HDL:=Lib.hid hdl
    clear hu hb7 hbw6 hDS HO6 m1 m2 hdl
    go_wp2_with (first | (at_builtin;go_loud (refine wpList_append_x docE rfl _ _ rfl W.heap.size _ l rfl HO7.out (fun b _ hb=>.inl (by have:=HP2.out b hb;omega)) _ DS rfl HSRC2.out (by have:=HDL.out;unfold maxLen;omega) (by have:=HDL.out;omega) (by have:=HB67.out.size;exact this) ?_;intro v' w8 ho8 hb8 _;obtain ⟨p8,c8,rfl,_⟩:=ho8.any.shape;have hb88:=HB67.out.trans hb8;have hx8:=(hb88.block (w.heap.size+1+1) (by omega)).trans HX2W.out;have n3:=row_cell hx8 0;have f8:w8.frozen? ⟨w.heap.size+1+1,0,none⟩=false:=frozen_of_row w8 _ 0 _ _ hx8;have HX8:=Lib.hid hx8;have HO8:=Lib.hid ho8;have HB8:=Lib.hid (HBW7.out.trans (hb8.mono (by omega)));clear ho8 hb8 hb88 hx8)))
    have HS:=Lib.hid (heap_setCell_same w8 (w.heap.size+1+1) 0 _ _ (.slice p8 (l++DS).length c8) HX8.out)
    refine bodyPost_ret (results_row2 (p:=4) (u:=5) rfl Tryz.underlying30 rfl #[.slice p8 (l++DS).length c8] (by exact infoR1) _ _ (w.heap.size+1+1) rfl (by first | exact HS.out | (have h:=HS.out;rw [List.length_append] at h ⊢;exact h))) rfl ?_
    rw [← HR.out]
    have hk:Kep (fun b=>b≠w.heap.size+1+1) w8 (w8.setCell ⟨w.heap.size+1+1,0,none⟩ (.slice p8 (l++DS).length c8)):=kep_set (by simp) _
    have hfin:RAddLeft P l (seq,es) w (.returned (.tuple #[.agg #[.slice p8 (l++DS).length c8],.int .i64 0])) (w8.setCell ⟨w.heap.size+1+1,0,none⟩ (.slice p8 (l++DS).length c8)):=by
     refine ⟨_,by rw [HLL.out],?_,HB8.out.trans (hk.below HB8.out.size fun k hk=>by omega)⟩
     rw [HLL.out]
     refine ROn.keep (OwnX.ron HO8.out (T:=fun k=>((k<w.heap.size∧P k)∨w.heap.size≤k)∧k≠w.heap.size+1+1) (fun g hg=>⟨.inr (by have:=(HO8.out.cells hg).1;omega),by have:=(HO8.out.cells hg).1;omega⟩) fun k _ hk1 => ?_) (hk.mono fun k hk2=>hk2.2) fun k _ hk2=>hk2.1
     have h:=HP2.out k hk1
     have h2:=HP1.out
     rw [← h2] at hk1
     exact ⟨.inl hk1,by omega⟩
    first | exact hfin | (simp only [List.length_append] at hfin ⊢;exact hfin)
 ·have q1:(c != 0)=true:=by simp [h0]
  have HQ:=Lib.hid (HEND.out c (by unfold addM;rw [if_pos (by rw [hc];exact h0),hc]) w4 (Below.refl _ _))
  have HS:=Lib.hid (HSET.out w4 (Below.refl _ _) (.slice pl l.length cl))
  clear hc h0 HEND
  go_wp2_with fail
  refine bodyPost_ret (results_row2 (p:=4) (u:=5) rfl Tryz.underlying30 rfl _ (by exact infoR1) _ _ (w.heap.size+1+1) rfl HS.out) rfl ?_
  rw [← HR.out]
  exact HQ.out
end Go.Proofs.YtidhgicajlaafaaGreat.MX
