import Derived.Test.YtidhgicajlaafaaGreatZD51
import Derived.Test.YtidhgicajlaafaaGreatZD41
import Derived.Test.YtidhgicajlaafaaGreatZD52
set_option maxRecDepth 100000
set_option maxHeartbeats 8000000
set_option linter.unusedVariables false
set_option linter.unusedSimpArgs false
namespace Go.Proofs.YtidhgicajlaafaaGreat.MX
open Go Go.RowKit MM EM SM
open EV (docC evC batC)
def Side (n1 g q:Nat) (w:World):Prop :=
 ∃ A l rv,Idx A w g l∧(∀ b,A b→n1≤b)∧¬ A q∧q<w.heap.size∧w.heap[q]? = some (.cells #[rv] 30 (0,0))∧ROn docC (fun b=>¬ A b∧b≠q) w rv l
theorem Side.below {n1 g q:Nat} {w w':World} (h:Side n1 g q w) (hb:Below w.heap.size w w'):Side n1 g q w':=by
 obtain ⟨A,l,rv,h1,h2,h3,h4,h5,h6⟩:=h
 exact ⟨A,l,rv,h1.below hb,h2,h3,Nat.lt_of_lt_of_le h4 hb.size,(hb.block q h4).trans h5,ROn.keep h6 (kep_below _ hb) fun _ _ h=>h⟩
def SideZ (n1 z g q:Nat) (w:World):Prop :=
 ∃ A l rv,Idx A w g l∧(∀ b,A b→n1≤b)∧¬ A q∧q<w.heap.size∧w.heap[q]? = some (.cells #[rv] 30 (0,0))∧ROn docC (fun b=>(¬ A b∧b≠q)∧b≠z) w rv l
def FilledLeft (w:World) (e:Ending) (w':World):Prop :=
 ∃ g A l rv,e=.returned (.tuple #[.pointer (some ⟨g,0,none⟩),.agg #[rv]])∧Idx A w' g l∧(∀ b,A b→w.heap.size≤b)∧RAny docC w' rv l∧ROn docC (fun b=>¬ A b) w' rv l∧Below w.heap.size w w'
theorem results_tmp_row {P:Program} {fn:Func} {t:TypeId} {ty:TypeDesc} {p u:Tmp} (h:fn.results=#[.tmp u,.cell p t]) (hu:P.underlying t=some ty) (hd:(match ty with | .struct _ | .array _ _=>true | _=>false)=true) (cs:Array Value) (hi:(P.info? t).map (·.size)=some cs.size) (tmps:Array Value) (w:World) (g:Nat)
  (hp:tmps.getD p undef=.pointer (some ⟨g,0,none⟩)) (hg:w.heap[g]? = some (.cells cs t (0,0))):(results fn tmps).run P w=.ok (.tuple #[tmps.getD u undef,.agg cs]) w:=by
 have hp':tmps[p]?.getD undef=.pointer (some ⟨g,0,none⟩):=by simpa using hp
 have hl:=run_loadVar_row (P:=P) w g t t cs (0,0) ty hg hu hd hi
 simp [results,h,hp',asAddr,hl]
theorem filled_any (v:Value) (bs:List Bat) (w:World) (hv:RAny batC w v bs):Calls Tryz.prog 8 #[v] w (FilledLeft w):=by
 obtain ⟨p,cap,rfl,hlc,hcm,_⟩:=hv.shape
 unfold maxLen at hcm
 obtain ⟨w1,hw1⟩:∃ w1,w.alloc (.cells #[.slice none 0 0] 30)=w1:=⟨_,rfl⟩
 obtain ⟨n1,hn1⟩:∃ n1,w1.heap.size=n1:=⟨_,rfl⟩
 have hb1:Below w.heap.size w w1:=by rw [← hw1];exact (Below.refl _ _).alloc (Nat.le_refl _) _
 have hx1:w1.heap[w.heap.size]? = some (.cells #[.slice none 0 0] 30 (0,0)):=by rw [← hw1];exact heap_alloc_new _ _
 have hs1:w.heap.size<n1:=by rw [← hn1];exact (Array.getElem?_eq_some_iff.1 hx1).1
 have HBS:Hid (RBel batC w.heap.size w1 (.slice p bs.length cap) bs):=Lib.hid (RBel.below hv.bel hb1)
 have HN:=Lib.hid (new_any w1)
 have HB1:=Lib.hid hb1
 have HX1:=Lib.hid hx1
 have HW1:=Lib.hid hw1
 have HN1:=Lib.hid hn1
 have hmx:Tryz.prog.follows .mixedOrders=true:=by kernel_rfl
 clear hv hb1 hx1 hw1
 go_enter Tryz.func8,Tryz.ntmps8
 go_wp2_with (rw [HW1.out])
 refine HN.out.mono ?_
 rintro e w2 ⟨g,rfl,hi2,hg2,hb2⟩
 obtain ⟨q,hq⟩:∃ q,w2.heap.size=q:=⟨_,rfl⟩
 obtain ⟨w3,hw3⟩:∃ w3,w2.alloc (.cells #[.slice none 0 0] 30)=w3:=⟨_,rfl⟩
 have hb3:Below w2.heap.size w2 w3:=by rw [← hw3];exact (Below.refl _ _).alloc (Nat.le_refl _) _
 have hx3:w3.heap[q]? = some (.cells #[.slice none 0 0] 30 (0,0)):=by rw [← hw3,← hq];exact heap_alloc_new _ _
 have hS3:SideZ n1 w.heap.size g q w3:=by
  refine ⟨_,[],_,hi2.below hb3,fun b hb=>by have:=hb.1;omega,fun hA => ?_,(Array.getElem?_eq_some_iff.1 hx3).1,hx3,ROn.nil_ _ _⟩
  have:q<w2.heap.size:=hA.2
  omega
 have HS3:=Lib.hid hS3
 have hbn:Below n1 w1 w3:=by rw [← hn1];exact hb2.trans (hb3.mono hb2.size)
 have HB3:=Lib.hid (HB1.out.trans (hbn.mono (by omega)))
 have HB13:=Lib.hid hbn
 have HQ:=Lib.hid hq
 have HW3:=Lib.hid hw3
 have hqn:n1≤q:=by rw [← hn1,← hq];exact hb2.size
 clear hi2 hb2 hn1 hq hw3 hb3 hx3 hS3 HN HW1 hbn
 go_wp2_with (rw [HW3.out])
 rw [HQ.out]
 go_loopw [6] (fun kv wr=>∃ k:Nat,k≤bs.length∧kv=.int .i64 k∧Hid (SideZ n1 w.heap.size g q wr)∧Hid (Below w.heap.size w wr)∧Hid (Below n1 w1 wr)) (fun kv _=>bs.length - (intOf kv).toNat)
 case atStart=>exact ⟨0,by omega,rfl,HS3,HB3,HB13⟩
 case round =>
  obtain ⟨k,hk,rfl,HS,HB,HBN⟩:=hrel
  clear HS3 HB3 HB13 HW3
  by_cases hlt:k<bs.length
  ·have q1:decide ((k:Int)<(bs.length:Int))=true:=by rw [decide_eq_true_eq];omega
   have q2:decide (k<bs.length)=true:=by rw [decide_eq_true_eq];omega
   have q3:(k:Int)<(bs.length:Int):=by omega
   have hbr:RBel batC w.heap.size wr (.slice p bs.length cap) bs:=RBel.below HBS.out (HBN.out.mono (Nat.le_of_lt hs1))
   obtain ⟨b,off,ev,rfl,hbl,hbn,c1,c2,hf⟩:=bat_at hbr hlt
   replace c1:wr.cell? ⟨b,off+k*2,none⟩=some (.int .i64 (bs[k]).1):=c1
   replace hf:ROn evC (fun b=>b<w.heap.size) wr ev (bs[k]).2:=hf
   obtain ⟨⟨sq,es⟩,hd⟩:∃ d,bs[k]=d:=⟨_,rfl⟩
   rw [hd] at c1 hf
   change ROn evC _ wr ev es at hf
   change wr.cell? ⟨b,off+k*2,none⟩=some (.int .i64 sq) at c1
   obtain ⟨pe,ce,rfl,_⟩:=hf.shape
   obtain ⟨A,ll,rv,hI,hA,hAq,hql,hxq,hrr⟩:=HS.out
   have HAD:=Lib.hid (add_idx A g ll sq (.slice pe es.length ce) es wr hI (hf.weak fun b _ h hAb=>by have:=hA b hAb;omega))
   obtain ⟨pr,cr,rfl,_⟩:=hrr.shape
   have HLT:=Lib.hid hlt
   have HBR:=Lib.hid hbr
   have HF:=Lib.hid hf
   have HII:=Lib.hid hI
   have HRR:=Lib.hid hrr
   have HXQ:=Lib.hid hxq
   have HAQ:=Lib.hid hAq
   have HAA:=Lib.hid hA
   have hn1r:n1≤wr.heap.size:=by omega
   have hwn:w.heap.size≤n1:=by omega
   clear hd hf hI hrr hxq hAq hA hlt hbr HS
   go_wp2_with fail
   refine HAD.out.mono ?_
   rintro e w4 ⟨rfl,hi4,hk4⟩
   obtain ⟨⟨l2,z⟩,hz⟩:∃ t,addM ll (sq,es)=t:=⟨_,rfl⟩
   rw [hz] at hi4 ⊢
   dsimp only at hi4 ⊢
   have hb4n:Below n1 wr w4:=hk4.below hn1r fun b hb hAb=>by have:=HAA.out b hAb;omega
   obtain ⟨A4,hA4⟩:∃ A4:Nat→Prop,Since A wr.heap.size w4.heap.size=A4:=⟨_,rfl⟩
   rw [hA4] at hi4
   have hnA:∀ b,b<wr.heap.size→¬ A b→¬ A4 b:=fun b hb hn h=>by rw [← hA4] at h;exact h.elim hn fun h=>by omega
   have hA4n:∀ b,A4 b→n1≤b:=fun b h=>by rw [← hA4] at h;exact h.elim (HAA.out b) fun h=>by omega
   have hqA4:=hnA q hql HAQ.out
   have hxq4:=(hk4.block q hql HAQ.out).trans HXQ.out
   have hsz4:=hk4.size
   have hrr4:ROn docC (fun b=>(¬ A4 b∧b≠w.heap.size)∧b≠q∧b<w4.heap.size) w4 (.slice pr ll.length cr) ll:=ROn.keep (ROn.weak HRR.out (T:=fun b=>((¬ A b∧b≠q)∧b≠w.heap.size)∧b<wr.heap.size) fun b hb h=>⟨h,hb⟩) (hk4.mono fun b hb=>hb.1.1.1) fun b hb h=>⟨⟨hnA b h.2 h.1.1.1,h.1.2⟩,h.1.1.2,by omega⟩
   have hf4:ROn evC (fun b=>(¬ A4 b∧b≠w.heap.size)∧b≠q∧b<w4.heap.size) w4 (.slice pe es.length ce) es:=ROn.keep HF.out ((kep_lt hb4n).mono fun b hb=>by omega) fun b hb h=>⟨⟨fun hA=>by have:=hA4n b hA;omega,by omega⟩,by omega,by omega⟩
   have hbg:=HII.out.big
   obtain ⟨wd,hwd⟩:∃ wd,w4.drew=wd:=⟨_,rfl⟩
   have hbd:Below w4.heap.size w4 wd:=by rw [← hwd];exact (Below.refl _ _).drew
   have hsd:wd.heap.size=w4.heap.size:=by rw [← hwd];rfl
   have hbbd:Below n1 wr wd:=hb4n.trans (hbd.mono (by omega))
   have hcd1:=(hbbd.cell (p:=⟨b,off+k*2,none⟩) (show b<n1 by omega)).trans c1
   have hcd2:=(hbbd.cell (p:=⟨b,off+k*2+1,none⟩) (show b<n1 by omega)).trans c2
   have hqd:=(hbd.block q (by omega)).trans hxq4
   have c0:wd.cell? ⟨q,0,none⟩=some (.slice pr ll.length cr):=row_cell hqd 0
   have HRA:=Lib.hid (radd_any (fun b=>(¬ A4 b∧b≠w.heap.size)∧b≠q∧b<w4.heap.size) ll sq (.slice pr ll.length cr) (.slice pe es.length ce) es wd (ROn.keep hrr4 (kep_below _ hbd) fun _ _ h=>h) (ROn.keep hf4 (kep_below _ hbd) fun _ _ h=>h) hbg)
   have HG:=Lib.hid (fun W (hW:Kep (fun b=>b≠q) wd W)=>(show W.cell? ⟨b,off+k*2,none⟩=some (.int .i64 sq)∧W.cell? ⟨b,off+k*2+1,none⟩=some (.slice pe es.length ce) from
    ⟨(hW.cell (by omega) (by omega) _).trans hcd1,(hW.cell (by omega) (by omega) _).trans hcd2⟩))
   have HI4:=Lib.hid hi4
   have HZ:=Lib.hid hz
   have HA4:=Lib.hid (And.intro hA4n (And.intro hqA4 hqd))
   have HBD:=Lib.hid hbd
   have HSD:=Lib.hid hsd
   have HWD:=Lib.hid hwd
   have HB4:=Lib.hid (HB.out.trans (hb4n.mono hwn))
   have HBN4:=Lib.hid (HBN.out.trans hb4n)
   have HL4:=Lib.hid (And.intro hql hsz4)
   clear hi4 hk4 hb4n hA4 hnA hA4n hqA4 hxq4 hrr4 hf4 hbg hwd hbd hsd hbbd hcd1 hcd2 hqd hz HAD HII HRR HXQ HAQ HAA HF HB hsz4
   go_wp2_with fail
   refine RT.begin_ (T:=fun b=>b≠q) (.take 1<|.take 2<|.take 3<|.take 4<|.alone 0<|.alone 5<|.take 6<|.take 7<|.take 8<|.alone 9<|.done) hmx (by kernel_rfl) rfl (by kernel_rfl) (fun _ _ d _ _ h=>by cases d<;>exact h) ?_
   simp only [RT.ordered,List.getElem?_toArray,List.getElem?_cons_succ,List.getElem?_cons_zero]
   rw [HWD.out]
   repeat (refine RT.take (by rfl) (by intro W' hW;obtain ⟨g1,g2⟩:=HG.out W' hW;go_simp;with_reducible rfl) ?_;simp only [Act.put,List.setIfInBounds_toArray,List.set_cons_zero,List.set_cons_succ])
   refine RT.alone (RT.step (by rfl) (fun K hK => ?_))
   go_simp
   refine hK.out _ _ (Kep.refl _ _) ?_
   clear hK K
   try simp only [Act.put,List.setIfInBounds_toArray,List.set_cons_zero,List.set_cons_succ]
   clear c0
   refine RT.alone (RT.step (by rfl) (fun K hK => ?_))
   go_simp
   refine HRA.out.mono ?_
   rintro e w5 ⟨nv,rfl,hnv,hb5⟩
   rw [HZ.out] at hnv ⊢
   obtain ⟨pn,cn,rfl,_⟩:=hnv.shape
   go_simp
   refine hK.out _ _ (kep_below _ hb5) ?_
   clear hK K
   try simp only [Act.put,List.setIfInBounds_toArray,List.set_cons_zero,List.set_cons_succ]
   repeat (refine RT.take (by rfl) (by intro W' hW;go_simp;with_reducible rfl) ?_;simp only [Act.put,List.setIfInBounds_toArray,List.set_cons_zero,List.set_cons_succ])
   have hqd5:q<wd.heap.size:=by have:=HL4.out;have:=HSD.out;omega
   have hq5:=(hb5.block q hqd5).trans HA4.out.2.2
   have z1:w5.cell? ⟨q,0,none⟩=some (.slice pr ll.length cr):=row_cell hq5 0
   have z2:w5.frozen? ⟨q,0,none⟩=false:=frozen_of_row w5 q 0 _ _ hq5
   have hb45:Below w4.heap.size w4 w5:=HBD.out.trans (hb5.mono (by have:=HSD.out;omega))
   have hn5:ROn docC (fun b=>(¬ A4 b∧b≠q)∧b≠w.heap.size) w5 (.slice pn l2.length cn) l2:=ROn.weak hnv fun b hb h=>by
    have hlt4:=HI4.out.alt
    rcases h with ⟨h1,h2⟩ | h
    ·exact ⟨⟨h2.1.1,h2.2.1⟩,h2.1.2⟩
    ·exact ⟨⟨fun hA=>by have:=hlt4 b hA;have:=HSD.out;omega,by omega⟩,by have:=HL4.out;have:=HSD.out;omega⟩
   have hk8:Kep (fun b=>b≠q) w5 (w5.setCell ⟨q,0,none⟩ (.slice pn l2.length cn)):=kep_set (by simp) _
   have hx8:=heap_setCell_same w5 q 0 _ _ (.slice pn l2.length cn) hq5
   obtain ⟨w8,hw8⟩:∃ w8,w5.setCell ⟨q,0,none⟩ (.slice pn l2.length cn)=w8:=⟨_,rfl⟩
   rw [hw8] at hk8 hx8
   have hi8:=(HI4.out.below hb45).keep hk8 fun b hb e=>HA4.out.2.1 (by rw [← e];exact hb)
   have hn8:ROn docC (fun b=>(¬ A4 b∧b≠q)∧b≠w.heap.size) w8 (.slice pn l2.length cn) l2:=ROn.keep hn5 (hk8.mono fun b hb=>hb.1.2) fun b _ h=>h
   have hb48:Below n1 w4 w8:=(hb45.mono (by have:=HL4.out;omega)).trans (hk8.below (by have:=hb45.size;have:=HL4.out;omega) fun k hk=>by omega)
   have HS8:Hid (SideZ n1 w.heap.size g q w8):=Lib.hid ⟨A4,l2,_,hi8,HA4.out.1,HA4.out.2.1,by have:=hk8.size;have:=hb45.size;have:=HL4.out;omega,hx8,hn8⟩
   have HB8:=Lib.hid (HB4.out.trans (hb48.mono hwn))
   have HBN8:=Lib.hid (HBN4.out.trans hb48)
   refine RT.alone (RT.step (by rfl) (fun K hK => ?_))
   go_simp
   try rw [hw8]
   refine hK.out _ _ hk8 ?_
   clear hK K
   try simp only [Act.put,List.setIfInBounds_toArray,List.set_cons_zero,List.set_cons_succ]
   clear hnv hb5 hq5 hb45 hn5 hk8 hx8 hw8 hi8 hn8 hb48 HA4 HI4 HB4 HBN4 HRA HG HBD
   refine RT.done ?_
   go_wp2_with fail
   have hlt:=HLT.out
   go_roundw
   case rel=>exact ⟨k+1,by omega,by go_num,HS8,HB8,HBN8⟩
   case measure=>simp [intOf];omega
  ·obtain rfl:k=bs.length:=by omega
   have q1:decide ((bs.length:Int)<(bs.length:Int))=false:=by simp
   have q2:decide (bs.length<bs.length)=false:=by simp
   obtain ⟨A,ll,rv,hI,hA,hAq,hql,hxq,hrr⟩:=HS.out
   obtain ⟨pr,cr,rfl,_⟩:=hrr.shape
   obtain ⟨wd,hwd⟩:∃ wd,wr.drew=wd:=⟨_,rfl⟩
   have hbd:Below wr.heap.size wr wd:=by rw [← hwd];exact (Below.refl _ _).drew
   have hsd:wd.heap.size=wr.heap.size:=by rw [← hwd];rfl
   have hqd:=(hbd.block q hql).trans hxq
   have hwd0:=((HBN.out.trans (hbd.mono (by omega))).block w.heap.size hs1).trans HX1.out
   have HG:=Lib.hid (fun W (hW:Kep (fun b=>b≠w.heap.size) wd W)=>(show W.cell? ⟨q,0,none⟩=some (.slice pr ll.length cr) from row_cell ((hW.block q (by omega) (by omega)).trans hqd) 0))
   have z1:wd.cell? ⟨w.heap.size,0,none⟩=some (.slice none 0 0):=row_cell hwd0 0
   have z2:wd.frozen? ⟨w.heap.size,0,none⟩=false:=frozen_of_row wd w.heap.size 0 _ _ hwd0
   have hk8:Kep (fun b=>b≠w.heap.size) wd (wd.setCell ⟨w.heap.size,0,none⟩ (.slice pr ll.length cr)):=kep_set (by simp) _
   have HX8:=Lib.hid (heap_setCell_same wd w.heap.size 0 _ _ (.slice pr ll.length cr) hwd0)
   have hbb:=HB.out.trans (hbd.mono HB.out.size)
   have HQ:Hid (FilledLeft w (.returned (.tuple #[.pointer (some ⟨g,0,none⟩),.agg #[.slice pr ll.length cr]])) (wd.setCell ⟨w.heap.size,0,none⟩ (.slice pr ll.length cr))):=Lib.hid (by
    have hI8:=(hI.below hbd).keep hk8 fun b hb e=>by have:=hA b hb;omega
    have hr8:ROn docC (fun b=>¬ A b∧b≠w.heap.size) (wd.setCell ⟨w.heap.size,0,none⟩ (.slice pr ll.length cr)) (.slice pr ll.length cr) ll:=by
     exact ROn.keep (ROn.keep (ROn.weak hrr (T:=fun b=>¬ A b∧b≠w.heap.size) fun b _ h=>⟨h.1.1,h.2⟩) (kep_below _ hbd) fun _ _ h=>h) (hk8.mono fun b hb=>hb.2) fun _ _ h=>h
    exact ⟨g,A,ll,_,rfl,hI8,fun b hb=>by have:=hA b hb;omega,hr8.any,hr8.weak fun b _ h=>h.1,hbb.trans (hk8.below hbb.size fun k hk=>by omega)⟩)
   have HWD:=Lib.hid hwd
   clear hI hA hAq hxq hrr hwd hbd hsd hqd hwd0 hbb HS HB hlt
   go_wp2_with fail
   refine RT.begin_ (T:=fun b=>b≠w.heap.size) (.take 0<|.take 1<|.take 2<|.alone 3<|.done) hmx (by kernel_rfl) rfl (by kernel_rfl) (fun _ _ d _ _ h=>by cases d<;>exact h) ?_
   simp only [RT.ordered,List.getElem?_toArray,List.getElem?_cons_succ,List.getElem?_cons_zero]
   rw [HWD.out]
   repeat (refine RT.take (by rfl) (by intro W' hW;have g0:=HG.out W' hW;go_simp;with_reducible rfl) ?_;simp only [Act.put,List.setIfInBounds_toArray,List.set_cons_zero,List.set_cons_succ])
   refine RT.alone (RT.step (by rfl) (fun K hK => ?_))
   go_simp
   refine hK.out _ _ hk8 ?_
   clear hK K
   try simp only [Act.put,List.setIfInBounds_toArray,List.set_cons_zero,List.set_cons_succ]
   refine RT.done ?_
   go_wp2_with fail
   refine bodyPost_ret (results_tmp_row (p:=3) (u:=2) rfl Tryz.underlying30 rfl _ (by exact infoR1) _ _ w.heap.size rfl HX8.out) rfl HQ.out
end Go.Proofs.YtidhgicajlaafaaGreat.MX
