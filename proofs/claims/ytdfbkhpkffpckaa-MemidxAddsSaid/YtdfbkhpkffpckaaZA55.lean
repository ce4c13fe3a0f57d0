import Derived.Test.YtdfbkhpkffpckaaZA53
import Derived.Test.YtdfbkhpkffpckaaZA54
set_option maxRecDepth 100000
set_option maxHeartbeats 8000000
set_option linter.unusedVariables false
set_option linter.unusedSimpArgs false
namespace Go.Proofs.Ytdfbkhpkffpckaa.MX
open Go Go.RowKit MM EM SM
open EV (docC evC batC)
def Held (w:World) (e:Ending) (w':World):Prop:=e=.returned (.bool true)∧Below w.heap.size w w'
theorem adds_call (v:Value) (bs0:List Bat) (i:Int) (w:World) (hv:RAny batC w v bs0):Calls Try.prog 5 #[v,.int .i64 i] w (Held w):=by
 have HF:=Lib.hid (few_any v bs0 w hv)
 obtain ⟨pv,cv,rfl,_⟩:=hv.shape
 clear hv
 go_enter Try.func5,Try.ntmps5
 go_wp2_with fail
 refine HF.out.mono ?_
 rintro e w1 ⟨vv,ok,bs,rfl,hbs,hb1⟩
 obtain ⟨p,cap,rfl,hlc,hcm,_⟩:=hbs.shape
 unfold maxLen at hcm
 have HBS:=Lib.hid hbs.bel
 have HB1:=Lib.hid hb1
 have HN:=Lib.hid (new_any w1)
 clear hbs hb1 HF
 go_wp2_with fail
 refine HN.out.mono ?_
 rintro e w2 ⟨g,rfl,hi2,hg2,hb2⟩
 have HB2:=Lib.hid (HB1.out.trans (hb2.mono HB1.out.size))
 have HI2:=Lib.hid hi2
 have HB12:=Lib.hid hb2
 cases ok with
 | false =>
   have HAW:=Lib.hid (awake_any w2)
   clear hi2 hb2 HN HB12 HI2 HB1
   go_wp2_with fail
   refine HAW.out.mono ?_
   rintro e w3 ⟨rfl,hb3⟩
   have HB3:=Lib.hid (HB2.out.trans (hb3.mono HB2.out.size))
   clear hb3
   go_wp2_with fail
   go_ret
   exact ⟨rfl,HB3.out⟩
 | true =>
   obtain ⟨n1,hn1⟩:∃ n1,w1.heap.size=n1:=⟨_,rfl⟩
   obtain ⟨q,hq⟩:∃ q,w2.heap.size=q:=⟨_,rfl⟩
   obtain ⟨w3,hw3⟩:∃ w3,w2.alloc (.cells #[.slice none 0 0] 49)=w3:=⟨_,rfl⟩
   have hb3:Below w2.heap.size w2 w3:=by rw [← hw3];exact (Below.refl _ _).alloc (Nat.le_refl _) _
   have hx3:w3.heap[q]? = some (.cells #[.slice none 0 0] 49 (0,0)):=by rw [← hw3,← hq];exact heap_alloc_new _ _
   have hS3:Side n1 g q w3:=by
    refine ⟨_,[],_,hi2.below hb3,fun b hb=>by rw [← hn1];exact hb.1,fun hA => ?_,(Array.getElem?_eq_some_iff.1 hx3).1,hx3,ROn.nil_ _ _⟩
    have:q<w2.heap.size:=hA.2
    omega
   have HS3:=Lib.hid hS3
   have HB3:=Lib.hid (HB2.out.trans (hb3.mono HB2.out.size))
   have HB13:Hid (Below n1 w1 w3):=Lib.hid (by rw [← hn1];exact HB12.out.trans (hb3.mono HB12.out.size))
   have HN1:=Lib.hid hn1
   have HQ:=Lib.hid hq
   have HW3:=Lib.hid hw3
   have hmx:Try.prog.follows .mixedOrders=true:=by kernel_rfl
   have hqn:n1≤q:=by rw [← hn1,← hq];exact hb2.size
   clear hi2 hb2 hn1 hq hw3 hb3 hx3 hS3 HN HI2 HB12 HB2
   go_wp2_with (rw [HW3.out])
   rw [HQ.out]
   go_loopw [8] (fun kv wr=>∃ k:Nat,k≤bs.length∧kv=.int .i64 k∧Hid (Side n1 g q wr)∧Hid (Below w.heap.size w wr)∧Hid (Below n1 w1 wr)) (fun kv _=>bs.length - (intOf kv).toNat)
   case atStart=>exact ⟨0,by omega,rfl,HS3,HB3,HB13⟩
   case round =>
    obtain ⟨k,hk,rfl,HS,HB,HBN⟩:=hrel
    clear HS3 HB3 HB13 HW3
    by_cases hlt:k<bs.length
    ·have q1:decide ((k:Int)<(bs.length:Int))=true:=by rw [decide_eq_true_eq];omega
     have q2:decide (k<bs.length)=true:=by rw [decide_eq_true_eq];omega
     have q3:(k:Int)<(bs.length:Int):=by omega
     have hbr:RBel batC n1 wr (.slice p bs.length cap) bs:=RBel.below (by rw [← HN1.out];exact HBS.out) HBN.out
     obtain ⟨b,off,ev,rfl,hbl,hbn,c1,c2,hf⟩:=bat_at hbr hlt
     replace c1:wr.cell? ⟨b,off+k*2,none⟩=some (.int .i64 (bs[k]).1):=c1
     replace hf:ROn evC (fun b=>b<n1) wr ev (bs[k]).2:=hf
     obtain ⟨⟨sq,es⟩,hd⟩:∃ d,bs[k]=d:=⟨_,rfl⟩
     rw [hd] at c1 hf
     change ROn evC _ wr ev es at hf
     change wr.cell? ⟨b,off+k*2,none⟩=some (.int .i64 sq) at c1
     obtain ⟨pe,ce,rfl,_⟩:=hf.shape
     obtain ⟨A,ll,rv,hI,hA,hAq,hql,hxq,hrr⟩:=HS.out
     have HAD:=Lib.hid (add_idx A g ll sq (.slice pe es.length ce) es wr hI (hf.weak fun b _ h hAb=>by have:=hA b hAb;omega))
     obtain ⟨pr,cr,rfl,_⟩:=hrr.shape
     have HLT:=Lib.hid hlt
     have HBR:=Lib.hid hbr
     have HF:=Lib.hid hf
     have HII:=Lib.hid hI
     have HRR:=Lib.hid hrr
     have HXQ:=Lib.hid hxq
     have HAQ:=Lib.hid hAq
     have HAA:=Lib.hid hA
     have hn1r:n1≤wr.heap.size:=by omega
     have hwn:w.heap.size≤n1:=by rw [← HN1.out];exact HB1.out.size
     clear hd hf hI hrr hxq hAq hA hlt hbr HS
     go_wp2_with fail
     refine HAD.out.mono ?_
     rintro e w4 ⟨rfl,hi4,hk4⟩
     obtain ⟨⟨l2,z⟩,hz⟩:∃ t,addM ll (sq,es)=t:=⟨_,rfl⟩
     rw [hz] at hi4 ⊢
     dsimp only at hi4 ⊢
     have hb4n:Below n1 wr w4:=hk4.below hn1r fun b hb hAb=>by have:=HAA.out b hAb;omega
     obtain ⟨A4,hA4⟩:∃ A4:Nat→Prop,Since A wr.heap.size w4.heap.size=A4:=⟨_,rfl⟩
     rw [hA4] at hi4
     have hnA:∀ b,b<wr.heap.size→¬ A b→¬ A4 b:=fun b hb hn h=>by rw [← hA4] at h;exact h.elim hn fun h=>by omega
     have hA4n:∀ b,A4 b→n1≤b:=fun b h=>by rw [← hA4] at h;exact h.elim (HAA.out b) fun h=>by omega
     have hqA4:=hnA q hql HAQ.out
     have hxq4:=(hk4.block q hql HAQ.out).trans HXQ.out
     have hsz4:=hk4.size
     have hrr4:ROn docC (fun b=>¬ A4 b∧b≠q∧b<w4.heap.size) w4 (.slice pr ll.length cr) ll:=ROn.keep (ROn.weak HRR.out (T:=fun b=>(¬ A b∧b≠q)∧b<wr.heap.size) fun b hb h=>⟨h,hb⟩) (hk4.mono fun b hb=>hb.1.1) fun b hb h=>⟨hnA b h.2 h.1.1,h.1.2,by omega⟩
     have hf4:ROn evC (fun b=>¬ A4 b∧b≠q∧b<w4.heap.size) w4 (.slice pe es.length ce) es:=ROn.keep HF.out (kep_lt hb4n) fun b hb h=>⟨fun hA=>by have:=hA4n b hA;omega,by omega,by omega⟩
     have hbg:=HII.out.big
     obtain ⟨wd,hwd⟩:∃ wd,w4.drew=wd:=⟨_,rfl⟩
     have hbd:Below w4.heap.size w4 wd:=by rw [← hwd];exact (Below.refl _ _).drew
     have hsd:wd.heap.size=w4.heap.size:=by rw [← hwd];rfl
     have hbbd:Below n1 wr wd:=hb4n.trans (hbd.mono (by omega))
     have hcd1:=(hbbd.cell (p:=⟨b,off+k*2,none⟩) (show b<n1 from hbn)).trans c1
     have hcd2:=(hbbd.cell (p:=⟨b,off+k*2+1,none⟩) (show b<n1 from hbn)).trans c2
     have hqd:=(hbd.block q (by omega)).trans hxq4
     obtain ⟨DN,hDN⟩:∃ D,wd.heap.size=D:=⟨_,rfl⟩
     have HDN:=Lib.hid hDN
     have HG:=Lib.hid (fun W (hW:Kep (fun b=>b<DN) wd W)=>(show W.cell? ⟨q,0,none⟩=some (.slice pr ll.length cr)∧W.cell? ⟨b,off+k*2,none⟩=some (.int .i64 sq)∧W.cell? ⟨b,off+k*2+1,none⟩=some (.slice pe es.length ce) from
      ⟨row_cell ((hW.block q (by omega) (by omega)).trans hqd) 0,(hW.cell (by omega) (by omega) _).trans hcd1,(hW.cell (by omega) (by omega) _).trans hcd2⟩))
     have HRA:=Lib.hid (fun W (hb:Below wd.heap.size wd W)=>radd_any (fun b=>¬ A4 b∧b≠q∧b<w4.heap.size) ll sq (.slice pr ll.length cr) (.slice pe es.length ce) es W (ROn.keep hrr4 (kep_below _ (hbd.trans (hb.mono (by omega)))) fun _ _ h=>h) (ROn.keep hf4 (kep_below _ (hbd.trans (hb.mono (by omega)))) fun _ _ h=>h) hbg)
     have HI4:=Lib.hid hi4
     have HZ:=Lib.hid hz
     have HA4:=Lib.hid (And.intro hA4n (And.intro hqA4 hxq4))
     have HBD:=Lib.hid hbd
     have HSD:=Lib.hid hsd
     have HWD:=Lib.hid hwd
     have HB4:=Lib.hid (HB.out.trans (hb4n.mono hwn))
     have HBN4:=Lib.hid (HBN.out.trans hb4n)
     have HL4:=Lib.hid (And.intro hql hsz4)
     clear hDN hi4 hk4 hb4n hA4 hnA hA4n hqA4 hxq4 hrr4 hf4 hbg hwd hbd hsd hbbd hcd1 hcd2 hqd hz HAD HII HRR HXQ HAQ HAA HF HB hsz4
     go_wp2_with fail
     refine RT.begin_ (T:=fun b=>b<DN) (.take 0<|.take 1<|.take 2<|.take 3<|.take 4<|.both 5 9 (.take 6<|.take 7<|.take 8<|.alone 9<|.alone 10<|.take 11<|.done) (.alone 5<|.take 6<|.take 7<|.take 8<|.alone 10<|.take 11<|.done)) hmx (by kernel_rfl) rfl (by kernel_rfl) (fun _ _ d _ _ h=>by cases d<;>exact h) ?_
     simp only [RT.ordered,List.getElem?_toArray,List.getElem?_cons_succ,List.getElem?_cons_zero]
     rw [HWD.out]
     repeat (refine RT.take (by rfl) (by intro W' hW;obtain ⟨g0,g1,g2⟩:=HG.out W' hW;go_simp;with_reducible rfl) ?_;simp only [Act.put,List.setIfInBounds_toArray,List.set_cons_zero,List.set_cons_succ])
     refine RT.both ?_ ?_
     case' refine_1 =>
      refine RT.step (by rfl) (fun K hK => ?_)
      go_simp
      refine (HRA.out wd (Below.refl _ _)).mono ?_
      rintro e w5 ⟨nv,rfl,hnv,hb5⟩
      rw [HZ.out] at hnv ⊢
      obtain ⟨pn,cn,rfl,_⟩:=hnv.shape
      go_simp
      refine hK.out _ _ (kep_below _ hb5) ?_
      clear hK K
      try simp only [Act.put,List.setIfInBounds_toArray,List.set_cons_zero,List.set_cons_succ]
      repeat (refine RT.take (by rfl) (by intro W' hW;go_simp;with_reducible rfl) ?_;simp only [Act.put,List.setIfInBounds_toArray,List.set_cons_zero,List.set_cons_succ])
      have hx6:=heap_alloc_new w5 (.cells #[.slice none 0 0] 49)
      have hb6:Below w5.heap.size w5 (w5.alloc (.cells #[.slice none 0 0] 49)):=(Below.refl _ _).alloc (Nat.le_refl _) _
      refine RT.alone (RT.step (by rfl) (fun K hK => ?_))
      go_simp
      refine hK.out _ _ (kep_alloc _ _ _) ?_
      clear hK K
      try simp only [Act.put,List.setIfInBounds_toArray,List.set_cons_zero,List.set_cons_succ]
      obtain ⟨q6,hq6⟩:∃ q6,w5.heap.size=q6:=⟨_,rfl⟩
      have hq6d:wd.heap.size≤q6:=by rw [← hq6];exact hb5.size
      have hn6:ROn docC (fun b=>(¬ A4 b∧b≠q)∧b≠q6) (w5.alloc (.cells #[.slice none 0 0] 49)) (.slice pn l2.length cn) l2:=ROn.keep (ROn.weak hnv (T:=fun b=>((¬ A4 b∧b≠q)∧b≠q6)) fun b hb h=>by
       have hlt4:=HI4.out.alt
       rcases h with ⟨h1,h2⟩ | h
       ·exact ⟨⟨h2.1,h2.2.1⟩,by omega⟩
       ·exact ⟨⟨fun hA=>by have:=hlt4 b hA;have:=HSD.out;omega,by have:=HL4.out;have:=HSD.out;omega⟩,by omega⟩) (kep_below _ hb6) fun _ _ h=>h
      rw [hq6] at hx6 ⊢
      generalize w5.alloc (.cells #[.slice none 0 0] 49)=w6 at *
      have hbd6:Below wd.heap.size wd w6:=hb5.trans (hb6.mono hb5.size)
      clear hb5 hb6 hq6 hnv
     case' refine_2 =>
      have hx6:=heap_alloc_new wd (.cells #[.slice none 0 0] 49)
      have hb6:Below wd.heap.size wd (wd.alloc (.cells #[.slice none 0 0] 49)):=(Below.refl _ _).alloc (Nat.le_refl _) _
      refine RT.step (by rfl) (fun K hK => ?_)
      go_simp
      refine hK.out _ _ (kep_alloc _ _ _) ?_
      clear hK K
      try simp only [Act.put,List.setIfInBounds_toArray,List.set_cons_zero,List.set_cons_succ]
      obtain ⟨q6,hq6⟩:∃ q6,wd.heap.size=q6:=⟨_,rfl⟩
      have hq6d:wd.heap.size≤q6:=by rw [← hq6];exact Nat.le_refl _
      have hs6:q6<(wd.alloc (.cells #[.slice none 0 0] 49)).heap.size:=by rw [← hq6];simp
      rw [hq6] at hx6 ⊢
      generalize wd.alloc (.cells #[.slice none 0 0] 49)=w5 at *
      refine RT.alone (RT.step (by rfl) (fun K hK => ?_))
      go_simp
      refine (HRA.out w5 hb6).mono ?_
      rintro e w6 ⟨nv,rfl,hnv,hb56⟩
      rw [HZ.out] at hnv ⊢
      obtain ⟨pn,cn,rfl,_⟩:=hnv.shape
      go_simp
      refine hK.out _ _ (kep_below _ hb56) ?_
      clear hK K
      try simp only [Act.put,List.setIfInBounds_toArray,List.set_cons_zero,List.set_cons_succ]
      repeat (refine RT.take (by rfl) (by intro W' hW;go_simp;with_reducible rfl) ?_;simp only [Act.put,List.setIfInBounds_toArray,List.set_cons_zero,List.set_cons_succ])
      have hn6:ROn docC (fun b=>(¬ A4 b∧b≠q)∧b≠q6) w6 (.slice pn l2.length cn) l2:=ROn.weak hnv fun b hb h=>by
       have hlt4:=HI4.out.alt
       rcases h with ⟨h1,h2⟩ | h
       ·exact ⟨⟨h2.1,h2.2.1⟩,by have:=HSD.out;omega⟩
       ·exact ⟨⟨fun hA=>by have:=hlt4 b hA;have:=HSD.out;omega,by have:=HL4.out;have:=HSD.out;omega⟩,by omega⟩
      have hbd6:Below wd.heap.size wd w6:=hb6.trans (hb56.mono hb6.size)
      replace hx6:=(hb56.block q6 hs6).trans hx6
      clear hb56 hb6 hq6 hnv hs6
     all_goals
      have hx6':w6.heap[q6]? = some (.cells #[.slice none 0 0] 49 (0,0)):=hx6
      have y0:w6.cell? ⟨q6,0,none⟩=some (.slice none 0 0):=row_cell hx6' 0
      have f0:w6.frozen? ⟨q6,0,none⟩=false:=frozen_of_row w6 q6 0 _ _ hx6'
      refine RT.alone (RT.step (by rfl) (fun K hK => ?_))
      go_simp
      have hk7:Kep (fun b=>b≠q6) w6 (w6.setCell ⟨q6,0,none⟩ (.slice pn l2.length cn)):=kep_set (by simp) _
      have hx7:=heap_setCell_same w6 q6 0 _ _ (.slice pn l2.length cn) hx6'
      obtain ⟨w7,hw7⟩:∃ w7,w6.setCell ⟨q6,0,none⟩ (.slice pn l2.length cn)=w7:=⟨_,rfl⟩
      rw [hw7] at hk7 hx7 ⊢
      have hq4:q<wd.heap.size:=by have:=HL4.out;have:=HSD.out;omega
      refine hK.out _ _ (hk7.mono fun b hb=>by have:=HDN.out;omega) ?_
      clear hK K
      try simp only [Act.put,List.setIfInBounds_toArray,List.set_cons_zero,List.set_cons_succ]
      repeat (refine RT.take (by rfl) (by intro W' hW;go_simp;with_reducible rfl) ?_;simp only [Act.put,List.setIfInBounds_toArray,List.set_cons_zero,List.set_cons_succ])
      refine RT.done ?_
      have hb47:Below w4.heap.size w4 w7:=(HBD.out.trans (hbd6.mono (by have:=HSD.out;omega))).trans (hk7.below (by have:=hbd6.size;have:=HSD.out;omega) fun k hk=>by have:=HSD.out;omega)
      have hi7:=HI4.out.below hb47
      have hn7:ROn docC (fun b=>¬ A4 b∧b≠q) w7 (.slice pn l2.length cn) l2:=ROn.keep hn6 (hk7.mono fun b hb=>hb.2) fun b _ h=>h.1
      have hq7:=(hb47.block q (by have:=HSD.out;omega)).trans HA4.out.2.2
      have z0:w7.cell? ⟨q6,0,none⟩=some (.slice pn l2.length cn):=row_cell hx7 0
      have z1:w7.cell? ⟨q,0,none⟩=some (.slice pr ll.length cr):=row_cell hq7 0
      have z2:w7.frozen? ⟨q,0,none⟩=false:=frozen_of_row w7 q 0 _ _ hq7
      have hk8:Kep (fun b=>b≠q) w7 (w7.setCell ⟨q,0,none⟩ (.slice pn l2.length cn)):=kep_set (by simp) _
      have hx8:=heap_setCell_same w7 q 0 _ _ (.slice pn l2.length cn) hq7
      obtain ⟨w8,hw8⟩:∃ w8,w7.setCell ⟨q,0,none⟩ (.slice pn l2.length cn)=w8:=⟨_,rfl⟩
      rw [hw8] at hk8 hx8
      have z8:w8.cell? ⟨q,0,none⟩=some (.slice pn l2.length cn):=row_cell hx8 0
      have hi8:=hi7.keep hk8 fun b hb e=>HA4.out.2.1 (by rw [← e];exact hb)
      have hn8:ROn docC (fun b=>¬ A4 b∧b≠q) w8 (.slice pn l2.length cn) l2:=ROn.keep hn7 (hk8.mono fun b hb=>hb.2) fun b _ h=>h
      have hb48:Below n1 w4 w8:=(hb47.mono (by have:=HL4.out;omega)).trans (hk8.below (by have:=hb47.size;have:=HL4.out;omega) fun k hk=>by omega)
      have HSAME:=Lib.hid (same_any A4 g l2 (.slice pn l2.length cn) i w8 hi8 hn8.any)
      have HS8:Hid (Side n1 g q w8):=Lib.hid ⟨A4,l2,_,hi8,HA4.out.1,HA4.out.2.1,by have:=hk8.size;have:=hb47.size;have:=HL4.out;omega,hx8,hn8⟩
      have HB8:=Lib.hid (HB4.out.trans (hb48.mono hwn))
      have HBN8:=Lib.hid (HBN4.out.trans hb48)
      have HW8:=Lib.hid hw8
      clear hw7 hk7 hx7 hx6 hx6' hn6 hbd6 y0 f0 hb47 hi7 hn7 hq7 hk8 hx8 hw8 hi8 hn8 hb48 HA4 HI4 HB4 HBN4 HRA HG HBD
      go_wp2_with (rw [HW8.out])
      refine HSAME.out.mono ?_
      rintro e w9 ⟨rfl,hb9⟩
      have HS9:=Lib.hid (HS8.out.below hb9)
      have HB9:=Lib.hid (HB8.out.trans (hb9.mono HB8.out.size))
      have HBN9:=Lib.hid (HBN8.out.trans (hb9.mono (by have h5:=HBN8.out.size;have h6:=HN1.out;omega)))
      clear hb9 HSAME HS8 HB8 HBN8 z0 z1 z2 z8 HW8
      go_wp2_with fail
      have hlt:=HLT.out
      go_roundw
      case rel=>exact ⟨k+1,by omega,by go_num,HS9,HB9,HBN9⟩
      case measure=>simp [intOf];omega
    ·obtain rfl:k=bs.length:=by omega
     have q1:decide ((bs.length:Int)<(bs.length:Int))=false:=by simp
     have q2:decide (bs.length<bs.length)=false:=by simp
     obtain ⟨A,ll,rv,hI,hA,hAq,hql,hxq,hrr⟩:=HS.out
     obtain ⟨pr,cr,rfl,_⟩:=hrr.shape
     have hbg:=hI.big
     obtain ⟨wd,hwd⟩:∃ wd,wr.drew=wd:=⟨_,rfl⟩
     have hbd:Below wr.heap.size wr wd:=by rw [← hwd];exact (Below.refl _ _).drew
     have hqd:=(hbd.block q hql).trans hxq
     have HG:=Lib.hid (fun W (hW:Kep (fun _=>True) wd W)=>(show W.cell? ⟨q,0,none⟩=some (.slice pr ll.length cr) from row_cell ((hW.block q (Nat.lt_of_lt_of_le hql hbd.size) trivial).trans hqd) 0))
     have HRR:=Lib.hid (fun W (hb:Below wd.heap.size wd W)=>(show RAny docC W (.slice pr ll.length cr) ll from (hrr.any.below hbd).below hb))
     have HDO:=Lib.hid (docs_idx (hI.below hbd))
     have HBD:=Lib.hid (HB.out.trans (hbd.mono HB.out.size))
     have HWD:=Lib.hid hwd
     clear hI hA hAq hxq hrr hbg hwd hbd hqd HS hlt hql
     go_wp2_with fail
     refine RT.begin_ (T:=fun _=>True) (.take 0<|.take 2<|.take 3<|.alone 1<|.alone 4<|.take 5<|.alone 6<|.take 7<|.take 8<|.done) hmx (by kernel_rfl) rfl (by kernel_rfl) (fun _ _ d _ _ h=>by cases d<;>exact h) ?_
     simp only [RT.ordered,List.getElem?_toArray,List.getElem?_cons_succ,List.getElem?_cons_zero]
     rw [HWD.out]
     repeat (refine RT.take (by rfl) (by intro W' hW;have g0:=HG.out W' hW;go_simp;with_reducible rfl) ?_;simp only [Act.put,List.setIfInBounds_toArray,List.set_cons_zero,List.set_cons_succ])
     refine RT.alone (RT.step (by rfl) (fun K hK => ?_))
     go_simp
     refine HDO.out.mono ?_
     rintro e w4 ⟨⟨u,rfl,hu⟩,hb4⟩
     obtain ⟨pu,cu,rfl,_⟩:=hu.shape
     go_simp
     refine hK.out _ _ (kep_below _ hb4) ?_
     clear hK K
     try simp only [Act.put,List.setIfInBounds_toArray,List.set_cons_zero,List.set_cons_succ]
     have HSD:=Lib.hid (EV.samedocs_any _ _ ll ll w4 hu.any (HRR.out w4 hb4))
     rw [decide_eq_true rfl] at HSD
     have HB4:=Lib.hid (HBD.out.trans (hb4.mono HBD.out.size))
     clear hu hb4 HDO HRR HG HBD HWD
     refine RT.alone (RT.step (by rfl) (fun K hK => ?_))
     go_simp
     refine HSD.out.mono ?_
     rintro e w5 ⟨rfl,hb5⟩
     go_simp
     refine hK.out _ _ (kep_below _ hb5) ?_
     clear hK K
     try simp only [Act.put,List.setIfInBounds_toArray,List.set_cons_zero,List.set_cons_succ]
     have HB5:=Lib.hid (HB4.out.trans (hb5.mono HB4.out.size))
     have HAW:=Lib.hid (awake_any w5)
     clear hb5 HSD HB4
     repeat (refine RT.take (by rfl) (by intro W' hW;go_simp;with_reducible rfl) ?_;simp only [Act.put,List.setIfInBounds_toArray,List.set_cons_zero,List.set_cons_succ])
     refine RT.alone (RT.step (by rfl) (fun K hK => ?_))
     go_simp
     refine HAW.out.mono ?_
     rintro e w6 ⟨rfl,hb6⟩
     go_simp
     refine hK.out _ _ (kep_below _ hb6) ?_
     clear hK K
     try simp only [Act.put,List.setIfInBounds_toArray,List.set_cons_zero,List.set_cons_succ]
     have HB6:=Lib.hid (HB5.out.trans (hb6.mono HB5.out.size))
     clear hb6 HAW HB5
     repeat (refine RT.take (by rfl) (by intro W' hW;go_simp;with_reducible rfl) ?_;simp only [Act.put,List.setIfInBounds_toArray,List.set_cons_zero,List.set_cons_succ])
     refine RT.done ?_
     go_wp2_with fail
     go_ret
     exact ⟨rfl,HB6.out⟩
end Go.Proofs.Ytdfbkhpkffpckaa.MX
